/-
  Walk: a word that needs memory, by the specification.
-/
import Derived.Test.YtmchgmpdhfefjaaCorX
import Derived.Test.YtmchgmpdhfefjaaRowQ
import Derived.Test.YtmchgmpdhfefjaaRowP
import Derived.Lib.SliceRun
namespace Go.Proofs.Ytmchgmpdhfefjaa
open Go.RowKit

set_option maxRecDepth 100000 in
set_option maxHeartbeats 8000000 in
theorem l15Mem_any (B G : Nat) (r mv : Value) (x : Co) (mem : List Int) (z : World) (op a b c : Int) (h : CsZ B G r mv x mem z) (h8 : x.regs.length = 8) (hm : mem.length ≤ 1048576) (ha : 0 ≤ a ∧ a ≤ 7) (hop : op = 2 ∨ op = 3 ∨ op = 9) (hp : 0 ≤ x.pc ∧ x.pc ≤ 1048576) :
    Calls Try.prog 48 #[.pointer (some ⟨G, 0, none⟩), .agg #[.int .i64 op, .int .i64 a, .int .i64 b, .int .i64 c], mv] z fun e z' => e = .returned (.int .i64 (stepMem x ⟨op, a, b, c⟩ mem).2.2) ∧ CsZ B G r mv (stepMem x ⟨op, a, b, c⟩ mem).1 (stepMem x ⟨op, a, b, c⟩ mem).2.1 z' ∧ Below B z z' := by
  obtain ⟨q, k, e, hBq⟩ := own_form h.ro (by omega)
  subst e
  obtain ⟨ai, rfl⟩ : ∃ i : Nat, a = (i : Int) := ⟨a.toNat, by omega⟩
  have hai : ai < 8 := by omega
  have hBG := h.hB
  have hBz : B ≤ z.heap.size := Nat.le_trans hBG (Nat.le_of_lt h.bO.lt)
  obtain ⟨mo, mc, emv⟩ := form_own h.mo
  obtain ⟨W1, hW⟩ : ∃ W1, z.alloc (.cells #[.int .i64 op, .int .i64 (ai : Int), .int .i64 b, .int .i64 c] 34) = W1 := ⟨_, rfl⟩
  have hb1 : Below z.heap.size z W1 := by rw [← hW]; exact (Below.refl _ _).alloc (Nat.le_refl _) _
  have Z1 := hide (h.stays hb1)
  have B1 := hide (hb1.mono hBz)
  have BI : Hid (Box W1 z.heap.size #[.int .i64 op, .int .i64 (ai : Int), .int .i64 b, .int .i64 c] 34) := by rw [← hW]; exact hide (Box.made z _ _)
  have HW := hide hW
  have E8 := hide h8
  have CI := fun z => hide ((specInI c 0 ((mem.length : Int) - 1) z).mono fun _ _ h => And.intro h.1 h.2.symm)
  obtain ⟨n, en⟩ : ∃ n, mem.length = n := ⟨_, rfl⟩
  have EN := hide en
  have hwn : wrap64 ((n : Int) - 1) = (n : Int) - 1 := by unfold wrap64; omega
  have p0 := Lib.cell_of_heap Z1.out.bO 0
  have p1 := Lib.cell_of_heap Z1.out.bO 1
  have pf := Lib.frozen_of_heap Z1.out.bO 1
  have i0 := Lib.cell_of_heap BI.out 0
  have i1 := Lib.cell_of_heap BI.out 1
  have i2 := Lib.cell_of_heap BI.out 2
  have i3 := Lib.cell_of_heap BI.out 3
  simp at p0 p1 i0 i1 i2 i3
  rw [h8] at p0
  have HRA := hide (own_cell Z1.out.ro (by rw [h8]; exact hai))
  have ra := HRA.out.1
  have fa := HRA.out.2
  have GA : Hid (regAt x (ai : Int) = x.regs.getD ai 0) := hide (by unfold regAt; rw [Int.toNat_natCast])
  obtain ⟨va, eva⟩ : ∃ v, x.regs.getD ai 0 = v := ⟨_, rfl⟩
  rw [eva] at ra GA
  have hia0 : (0 : Int) ≤ (ai : Int) := by omega
  have hia8 : (ai : Int) < 8 := by omega
  have hpw : wrap64 (x.pc + 1) = x.pc + 1 := by unfold wrap64; omega
  have HU : Hid (stepMem x ⟨op, (ai : Int), b, c⟩ mem = if inZ 0 ((n : Int) - 1) c = true then
    (if op = 3 then ({ x with pc := x.pc + 1 }, mem.set c.toNat va, 0)
     else if vok (mem.getD c.toNat 0) = true then
       ({ x with regs := x.regs.set ai (mem.getD c.toNat 0), pc := x.pc + 1 }, if op = 9 then mem.set c.toNat 1 else mem, 0)
     else (x, mem, 4))
    else (x, mem, 4)) := hide (by unfold stepMem; rw [en]; dsimp only; rw [GA.out]; rfl)
  rw [en] at CI hm emv
  clear HRA eva h8 h hb1 hW ha en
  obtain ⟨zi, ezi⟩ : ∃ b, inZ 0 ((n : Int) - 1) c = b := ⟨_, rfl⟩
  rw [ezi] at HU
  simp only [ezi] at CI
  subst emv
  cases zi with
  | false =>
    rw [if_neg (by decide)] at HU
    go_enter Try.func48, Try.ntmps48
    go_wp2_with fail
    rw [HW.out]
    refine (unhide (CI _)).mono ?_
    rintro e zz ⟨rfl, ez⟩
    rw [ez]
    clear ez zz
    go_wp2
    go_ret
    rw [HU.out]
    exact ⟨rfl, Z1.out, B1.out⟩
  | true =>
    rw [if_pos rfl] at HU
    have hcz := inZ_yes.1 ezi
    obtain ⟨ci, rfl⟩ : ∃ i : Nat, c = (i : Int) := ⟨c.toNat, by omega⟩
    rw [Int.toNat_natCast] at HU
    have hci : ci < n := by omega
    have hc0 : (0 : Int) ≤ (ci : Int) := by omega
    have hcn : (ci : Int) < (n : Int) := by omega
    have Z1' := hide Z1.out.mo
    rw [EN.out] at Z1'
    obtain ⟨mq, mk, em, hBm⟩ := own_form Z1'.out (by omega)
    injection em with em1 em2 em3
    subst em1
    subst em3
    clear em2
    have HMC := hide (own_cell Z1'.out hci)
    have mc0 := HMC.out.1
    have mf0 := HMC.out.2
    obtain ⟨vm, evm⟩ : ∃ v, mem.getD ci 0 = v := ⟨_, rfl⟩
    rw [evm] at mc0 HU
    clear HMC evm hcz Z1'
    by_cases h3 : op = 3
    · subst h3
      rw [if_pos rfl] at HU
      have ZM := hide (CsZ.setMem (i := ci) (by rw [EN.out]; exact Z1.out : CsZ B G _ (.slice (some ⟨mq, 0, none⟩) mem.length mc) x mem W1) va)
      have BM := hide (B1.out.setCell (p := ⟨mq, ci, none⟩) hBm (.int .i64 va))
      have k1 := Lib.cell_of_heap ZM.out.bO 1
      have kf := Lib.frozen_of_heap ZM.out.bO 1
      simp at k1 kf
      have ZP := hide ((ZM.out.setPc (x.pc + 1)).stays (Below.refl _ _).drew)
      have BP := hide ((BM.out.setCell (p := ⟨G, 1, none⟩) hBG (.int .i64 (x.pc + 1))).drew)
      rw [EN.out] at ZP
      go_enter Try.func48, Try.ntmps48
      go_wp2_with fail
      rw [HW.out]
      refine (unhide (CI _)).mono ?_
      rintro e zz ⟨rfl, ez⟩
      rw [ez]
      clear ez zz
      go_wp2_with fail
      go_region
      go_wp2
      go_ret
      rw [HU.out]
      exact ⟨rfl, ZP.out, BP.out⟩
    · have h32 : ¬ op = 3 := h3
      rw [if_neg h3] at HU
      have CV := fun z => hide ((specValOk vm z).mono fun _ _ h => And.intro h.1 h.2.symm)
      cases hv : vok vm with
      | false =>
        rw [hv, if_neg (by decide)] at HU
        simp only [hv] at CV
        clear hv
        go_enter Try.func48, Try.ntmps48
        go_wp2_with fail
        rw [HW.out]
        refine (unhide (CI _)).mono ?_
        rintro e zz ⟨rfl, ez⟩
        rw [ez]
        clear ez zz
        go_wp2_with fail
        refine (unhide (CV _)).mono ?_
        rintro e zz ⟨rfl, ez⟩
        rw [ez]
        clear ez zz
        go_wp2
        go_ret
        rw [HU.out]
        exact ⟨rfl, Z1.out, B1.out⟩
      | true =>
        rw [hv, if_pos rfl] at HU
        simp only [hv] at CV
        clear hv
        have ZR := hide ((Z1.out.setReg (i := ai) vm).stays (Below.refl _ _).drew)
        have BR := hide ((B1.out.setCell (p := ⟨q, ai, none⟩) hBq (.int .i64 vm)).drew)
        have BJ := hide ((BI.out.other ⟨q, ai, none⟩ (.int .i64 vm) (fun e => Lib.ownBlock_ne Z1.out.ro BI.out (by decide) (by rw [e]; rfl))).stays (Below.refl _ _).drew)
        go_enter Try.func48, Try.ntmps48
        go_wp2_with fail
        rw [HW.out]
        refine (unhide (CI _)).mono ?_
        rintro e zz ⟨rfl, ez⟩
        rw [ez]
        clear ez zz
        go_wp2_with fail
        refine (unhide (CV _)).mono ?_
        rintro e zz ⟨rfl, ez⟩
        rw [ez]
        clear ez zz
        go_wp2_with fail
        go_region
        clear p0 p1 pf i0 i1 i2 i3 ra fa
        obtain ⟨U, hU⟩ : ∃ Y, (W1.setCell ⟨q, ai, none⟩ (.int .i64 vm)).drew = Y := ⟨_, rfl⟩
        rw [hU] at ZR BR BJ ⊢
        clear hU mc0 mf0
        have j0 := Lib.cell_of_heap BJ.out 0
        have j3 := Lib.cell_of_heap BJ.out 3
        have k1 := Lib.cell_of_heap ZR.out.bO 1
        have kf := Lib.frozen_of_heap ZR.out.bO 1
        simp at j0 j3 k1
        have ZR' := hide ZR.out.mo
        rw [EN.out] at ZR'
        have HMC := hide (own_cell ZR'.out hci)
        have mc0 := HMC.out.1
        have mf0 := HMC.out.2
        clear HMC ZR'
        by_cases h9 : op = 9
        · subst h9
          rw [if_pos rfl] at HU
          have ZM := hide (CsZ.setMem (i := ci) (by rw [EN.out]; exact ZR.out : CsZ B G _ (.slice (some ⟨mq, 0, none⟩) mem.length mc) _ mem U) 1)
          have BM := hide (BR.out.setCell (p := ⟨mq, ci, none⟩) hBm (.int .i64 1))
          have l1 := Lib.cell_of_heap ZM.out.bO 1
          have lf := Lib.frozen_of_heap ZM.out.bO 1
          simp at l1 lf
          have ZP := hide (ZM.out.setPc (x.pc + 1))
          have BP := hide (BM.out.setCell (p := ⟨G, 1, none⟩) hBG (.int .i64 (x.pc + 1)))
          rw [EN.out] at ZP
          go_wp2
          go_ret
          rw [HU.out]
          exact ⟨rfl, ZP.out, BP.out⟩
        · have h92 : ¬ op = 9 := h9
          rw [if_neg h9] at HU
          have ZP := hide (ZR.out.setPc (x.pc + 1))
          have BP := hide (BR.out.setCell (p := ⟨G, 1, none⟩) hBG (.int .i64 (x.pc + 1)))
          go_wp2
          go_ret
          rw [HU.out]
          exact ⟨rfl, ZP.out, BP.out⟩
end Go.Proofs.Ytmchgmpdhfefjaa

namespace Go.Proofs.Ytmchgmpdhfefjaa
open Go.RowKit

theorem run_append_none {P : Program} (w : World) (t ty e : TypeId) (i : TypeInfo) (ht : P.underlying t = some (.slice e)) (hi : P.info? e = some i) (b : Option Addr) (n cap c : Nat) (h : n ≤ cap) :
    (Builtin.append_ #[t, t] ty #[.slice b n cap, .slice none 0 c]).run P w = .ok (.slice b n cap) w := by
  cases b with
  | none => simp [Builtin.append_, run_underlying ht, sizeOf, typeInfo, hi, Builtin.lenOf, h, run_firstCells_none]
  | some a => simp [Builtin.append_, run_underlying ht, sizeOf, typeInfo, hi, Builtin.lenOf, h, run_firstCells_none, storeCells]

/-- Boxes of another type stay while a row grows. -/
def BoxesKept (e : TypeId) (w w' : World) : Prop := ∀ g cs T, T ≠ e → Box w g cs T → Box w' g cs T
theorem BoxesKept.refl (e : TypeId) (w : World) : BoxesKept e w w := fun _ _ _ _ h => h
theorem boxes_grown {w w' : World} {base n : Nat} {e : TypeId} {v : Value} {xs : List Value} (hown : w.ownsRow base e 1 v n xs) (hg : w.grownBy w' v.ownBlock) : BoxesKept e w w' := fun g _cs _T hT hb =>
  (hg.block g hb.lt (Ne.symm (Lib.ownBlock_ne hown hb hT))).trans hb

/-- Several values appended to a row that is owned; boxes stay. -/
theorem wpList_appk {P : Program} {w : World} {ops : Array Oper} {rest : List Oper} {o : Oper} {a : Act} {Q : Exit → Act → World → Prop} (hgd : o.guard = none) (s x : Operand) (t : TypeId)
    (ho : o.op = .call { callee := .builtin .append, args := #[s, x], argTypes := #[t, t] })
    (base : Nat) (e : TypeId) (z : Value) (bytes : Nat) (ht : P.underlying t = some (.slice e)) (hi : (P.info? e).map (fun i => (i.zero, i.size, i.bytes)) = some (some z, 1, bytes)) (hzs : z.cells.size = 1)
    (v : Value) (n : Nat) (xs : List Value) (hs : a.eval s = v) (hown : w.ownsRow base e 1 v n xs)
    (ad : Addr) (m c : Nat) (news : List Value) (hx : a.eval x = .slice (some ad) m c) (hl : news.length = m) (hnews : ∀ j u, news[j]? = some u → w.cell? (ad.add j) = some u) (h1 : ∀ u ∈ news, u.oneCell' = true)
    (h63 : n + m ≤ maxLen) (hbytes : (n + m) * bytes ≤ 140737488355328) (hbase : base ≤ w.heap.size)
    (h : ∀ v' w', w'.ownsRow base e 1 v' (n + m) (xs ++ news) → Below base w w' → BoxesKept e w w' → wpList P ops Q rest (a.put o.dst v') w') : wpList P ops Q (o :: rest) a w := by
  obtain ⟨i, hi, hz0, hz1, hz2⟩ := info_parts hi
  refine wpList_append_own _ hgd s x t ho base e i z 1 bytes ht hi hz0 hz1 hz2 hzs (by decide) v n xs hs hown ad m c news hx (by omega) hnews h1 h63 hbytes hbase ?_
  intro v' w' hown' hgrow _
  exact h v' w' hown' ((Below.refl base w).grown hgrow hbase (fun j hj => (hown.lt j hj).1)) (boxes_grown hown hgrow)

/-- Values that lie in a new block of their own, appended. -/
theorem wpList_app_new {P : Program} {w : World} {ops : Array Oper} {rest : List Oper} {o : Oper} {a : Act} {Q : Exit → Act → World → Prop} {g : Nat} (hg : g = w.heap.size) (hgd : o.guard = none) (s x : Operand) (t : TypeId)
    (ho : o.op = .call { callee := .builtin .append, args := #[s, x], argTypes := #[t, t] })
    (base : Nat) (e : TypeId) (z : Value) (bytes : Nat) (ht : P.underlying t = some (.slice e)) (hi : (P.info? e).map (fun i => (i.zero, i.size, i.bytes)) = some (some z, 1, bytes)) (hzs : z.cells.size = 1)
    (v : Value) (n : Nat) (xs : List Value) (us : Array Value) (hs : a.eval s = v) (hown : w.ownsRow base e 1 v n xs)
    (m : Nat) (hx : a.eval x = .slice (some ⟨g, 0, none⟩) m m) (hm : us.size = m) (h1 : ∀ u ∈ us.toList, u.oneCell' = true)
    (h63 : n + m ≤ maxLen) (hbytes : (n + m) * bytes ≤ 140737488355328) (hbase : base ≤ w.heap.size)
    (h : ∀ v' w', w'.ownsRow base e 1 v' (n + m) (xs ++ us.toList) → Below base w w' → BoxesKept e w w' → wpList P ops Q rest (a.put o.dst v') w') : wpList P ops Q (o :: rest) a (w.alloc (.cells us e)) := by
  subst hg
  have hb : Below base w (w.alloc (.cells us e)) := (Below.refl _ _).alloc hbase _
  refine wpList_appk hgd s x t ho base e z bytes ht hi hzs v n xs hs (hown.alloc _) ⟨w.heap.size, 0, none⟩ m m us.toList hx (by simpa using hm) (fun j u hj => ?_) h1 h63 hbytes (by simp; omega) ?_
  · rw [add_zero_at, World.cell?_alloc_new]
    simpa using hj
  · intro v' w' h2 h3 h4
    refine h v' w' h2 (hb.trans h3) (fun g' cs T hT hbx => h4 g' cs T hT ?_)
    exact (Below.heap_alloc w _ g' hbx.lt).trans hbx

theorem wpList_app_strs {P : Program} {w : World} {ops : Array Oper} {rest : List Oper} {o : Oper} {a : Act} {Q : Exit → Act → World → Prop} (hgd : o.guard = none) (s x : Operand) (t : TypeId)
    (ho : o.op = .call { callee := .builtin .append, args := #[s, x], argTypes := #[t, t] })
    (base : Nat) (e : TypeId) (z : Value) (bytes : Nat) (ht : P.underlying t = some (.slice e)) (hi : (P.info? e).map (fun i => (i.zero, i.size, i.bytes)) = some (some z, 1, bytes)) (hzs : z.cells.size = 1)
    (v : Value) (n : Nat) (xs : List Value) (hs : a.eval s = v) (hown : w.ownsRow base e 1 v n xs)
    (xv : Value) (news : List ByteArray) (hx : a.eval x = xv) (hat : StrsAt w xv news)
    (h63 : n + news.length ≤ maxLen) (hbytes : (n + news.length) * bytes ≤ 140737488355328) (hbase : base ≤ w.heap.size)
    (h : ∀ v' w', w'.ownsRow base e 1 v' (n + news.length) (xs ++ news.map Value.string) → Below base w w' → BoxesKept e w w' → wpList P ops Q rest (a.put o.dst v') w') : wpList P ops Q (o :: rest) a w := by
  obtain ⟨ao, c, rfl, hc⟩ := hat
  cases ao with
  | some ad =>
    refine wpList_appk hgd s x t ho base e z bytes ht hi hzs v n xs hs hown ad news.length c (news.map Value.string) hx (by simp) (fun j u hj => ?_) (fun u hu => ?_) h63 hbytes hbase h
    · rw [List.getElem?_map] at hj
      obtain ⟨y, hy, rfl⟩ := Option.map_eq_some_iff.1 hj
      obtain ⟨hj2, rfl⟩ := List.getElem?_eq_some_iff.1 hy
      obtain ⟨a', ha, _, hcell⟩ := hc j hj2
      cases ha
      exact hcell
    · obtain ⟨y, _, rfl⟩ := List.mem_map.1 hu
      rfl
  | none =>
    have h0 : news = [] := by
      rcases news with _ | ⟨y, news⟩
      · rfl
      · obtain ⟨a', ha, _⟩ := hc 0 (by simp)
        simp at ha
    subst h0
    obtain ⟨i, hi2, _, _, _⟩ := info_parts hi
    have hv : ∃ b cap, v = .slice b n cap ∧ n ≤ cap := by
      rcases hown.2 with ⟨rfl, rfl⟩ | ⟨g, cap, cur, rfl, _, _, hr, _⟩
      · exact ⟨none, 0, rfl, Nat.le_refl _⟩
      · exact ⟨_, cap, rfl, hr⟩
    obtain ⟨b, cap, rfl, hr⟩ := hv
    have hrun := fun ty => run_append_none (P := P) w t ty e i ht hi2 b n cap c hr
    have hk := h (.slice b n cap) w (by simpa using hown) (Below.refl _ _) (BoxesKept.refl _ _)
    refine wpList_plain hgd fun K hK => ?_
    unfold Oper.wp execOp
    simp only [ho, resolve, invoke, builtin, Sem.run_bind, Sem.run_pure, Result.andThen_ok, List.map_toArray, List.map_cons, List.map_nil, hs, hx]
    simp only [List.length_nil]
    rw [hrun]
    exact hK _ _ hk
end Go.Proofs.Ytmchgmpdhfefjaa
