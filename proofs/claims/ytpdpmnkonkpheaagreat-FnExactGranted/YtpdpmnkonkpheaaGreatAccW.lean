/-
  Walks: who uses what, by the specification.
-/
import Derived.Test.YtpdpmnkonkpheaaGreatScoI
import Derived.Test.YtpdpmnkonkpheaaGreatImvF
import Derived.BigQuiet
import Derived.Test.YtpdpmnkonkpheaaGreatNamC
import Derived.Maps.AppendAt
import Derived.Deep.RegionHeld3
import Derived.Handy
namespace Go.Proofs.YtpdpmnkonkpheaaGreat
open Go.RowKit

/-- Does the process at this place use the monitor at that place? -/
def usesP (ms : List Mo) (ps : List Pr) (i m : Int) : Bool :=
  if 0 ≤ i ∧ i < (ps.length : Int) ∧ 0 ≤ m ∧ m < (ms.length : Int) then memB (ps.getD i.toNat default).uses (ms.getD m.toNat default).name else false
theorem usesP_in {ms : List Mo} {ps : List Pr} {i m : Nat} (hi : i < ps.length) (hm : m < ms.length) : usesP ms ps (i : Int) (m : Int) = memB ps[i].uses ms[m].name := by
  rw [usesP, if_pos ⟨by omega, by omega, by omega, by omega⟩, Int.toNat_natCast, Int.toNat_natCast, List.getD_eq_getElem?_getD, List.getElem?_eq_getElem hi, List.getD_eq_getElem?_getD, List.getElem?_eq_getElem hm]
  rfl

set_option maxRecDepth 100000 in
set_option maxHeartbeats 4000000 in
theorem specUses_any (nv mv pv : Value) (ms : List Mo) (ps : List Pr) (i m : Int) (w : World) (hN : SlV nv) (hM : MosAt w mv ms) (hP : PrsAt w pv ps) (hml : ms.length ≤ 1048576) (hpl : ps.length ≤ 1048576) (hul : ∀ p ∈ ps, p.uses.length ≤ 1048576) :
    Calls Tryz.prog 14 #[.agg #[nv, mv, pv], .int .i64 i, .int .i64 m] w fun e w' => e = .returned (.bool (usesP ms ps i m)) ∧ Below w.heap.size w w' := by
  have hb1 : Below w.heap.size w (w.alloc (.cells #[nv, mv, pv] 33)) := (Below.refl _ _).alloc (Nat.le_refl _) _
  have HM := hide (hM.stays hb1)
  have HP := hide (hP.stays hb1)
  have HX := hide (Boxed.made w nv mv pv 33)
  have HB := hide hb1
  have C1 := fun z => hide (l01In_gen i 0 ((ps.length : Int) - 1) z)
  have C2 := fun z => hide (l01In_gen m 0 ((ms.length : Int) - 1) z)
  have HUL := hide hul
  clear hb1 hul
  obtain ⟨ao, an, ac, rfl⟩ := hN
  obtain ⟨mo, mc, rfl, _⟩ := hM
  obtain ⟨po, pc, rfl, _⟩ := hP
  obtain ⟨R, eR⟩ : ∃ R, usesP ms ps i m = R := ⟨_, rfl⟩
  have ER := hide eR
  rw [eR]
  clear eR
  obtain ⟨n, en⟩ : ∃ n, ms.length = n := ⟨_, rfl⟩
  have EN := hide en
  obtain ⟨q, eq⟩ : ∃ q, ps.length = q := ⟨_, rfl⟩
  have EQ := hide eq
  rw [en] at C2 hml
  rw [eq] at C1 hpl
  rw [en, eq] at HM HP HX HB ⊢
  clear en eq
  obtain ⟨c0, c1, c2, hlt0⟩ := HX.out
  obtain ⟨W1, hW⟩ : ∃ W1, w.alloc (.cells #[.slice ao an ac, .slice mo n mc, .slice po q pc] 33) = W1 := ⟨_, rfl⟩
  have HWW := hide hW
  rw [hW] at HM HP HB c0 c1 c2
  clear hW hlt0 HX
  cases h1 : inZ 0 ((q : Int) - 1) i with
  | false =>
    have eR2 : R = false := by
      rw [← ER.out, usesP, if_neg]
      rintro ⟨a, b, _⟩
      have := inZ_yes.2 (show 0 ≤ i ∧ i ≤ (q : Int) - 1 by rw [EQ.out] at b; omega)
      rw [h1] at this
      cases this
    subst eR2
    rw [h1] at C1
    clear h1
    have C1' := fun k => hide (Calls.quiet_of_same (w := W1) (n := k) (unhide (C1 (W1.drewN k))))
    go_enter Tryz.func14, Tryz.ntmps14
    go_wp2_with fail
    rw [HWW.out]
    go_quiet ((go_at_call 31; with_reducible exact unhide (C1' _)))
    all_goals go_wp2
    all_goals go_ret
    all_goals exact ⟨rfl, below_drewN HB.out _⟩
  | true =>
    have hi2 := inZ_yes.1 h1
    obtain ⟨j, ej⟩ : ∃ j : Nat, i = (j : Int) := ⟨i.toNat, by omega⟩
    subst ej
    rw [h1] at C1
    clear h1
    have hj0 : (0 : Int) ≤ (j : Int) := by omega
    have hj1 : (j : Int) < (q : Int) := by omega
    have hjx : j < ps.length := by rw [EQ.out]; omega
    cases h2 : inZ 0 ((n : Int) - 1) m with
    | false =>
      have eR2 : R = false := by
        rw [← ER.out, usesP, if_neg]
        rintro ⟨_, _, a, b⟩
        have := inZ_yes.2 (show 0 ≤ m ∧ m ≤ (n : Int) - 1 by rw [EN.out] at b; omega)
        rw [h2] at this
        cases this
      subst eR2
      rw [h2] at C2
      clear h2
      have C1' := fun k => hide (Calls.quiet_of_same (w := W1) (n := k) (unhide (C1 (W1.drewN k))))
      have C2' := fun k => hide (Calls.quiet_of_same (w := W1) (n := k) (unhide (C2 (W1.drewN k))))
      go_enter Tryz.func14, Tryz.ntmps14
      go_wp2_with fail
      rw [HWW.out]
      go_quiet ((go_at_call 31; first | with_reducible exact unhide (C1' _) | with_reducible exact unhide (C2' _)))
      all_goals go_wp2
      all_goals go_ret
      all_goals exact ⟨rfl, below_drewN HB.out _⟩
    | true =>
      have hm2 := inZ_yes.1 h2
      obtain ⟨k, ek⟩ : ∃ k : Nat, m = (k : Int) := ⟨m.toNat, by omega⟩
      subst ek
      rw [h2] at C2
      clear h2
      have hk0 : (0 : Int) ≤ (k : Int) := by omega
      have hk1 : (k : Int) < (n : Int) := by omega
      have hkx : k < ms.length := by rw [EN.out]; omega
      have HR : Hid (memB ps[j].uses ms[k].name = R) := by rw [← ER.out, usesP_in hjx hkx]; exact hide rfl
      have hu := HUL.out _ (List.getElem_mem hjx)
      obtain ⟨po', pc', e5, hpc⟩ := HP.out
      injection e5 with e6 e7 e8
      subst e6
      obtain ⟨pa, uv, vv, rfl, _, hpx⟩ := hpc j hjx
      obtain ⟨mo', mc', e5, hmc⟩ := HM.out
      injection e5 with e6 e9 e10
      subst e6
      obtain ⟨ma, v1, v2, v3, rfl, _, hmx⟩ := hmc k hkx
      obtain ⟨r1, hr1⟩ : ∃ r, pa.add (j * 4) = r := ⟨_, rfl⟩
      obtain ⟨r2, hr2⟩ : ∃ r, ma.add (k * 4) = r := ⟨_, rfl⟩
      rw [hr1] at hpx
      rw [hr2] at hmx
      have d1 := hpx.c1
      have d0 := hmx.c0
      have HU := hide hpx.uses
      obtain ⟨x, ex⟩ : ∃ x, ps[j] = x := ⟨_, rfl⟩
      obtain ⟨y, ey⟩ : ∃ y, ms[k] = y := ⟨_, rfl⟩
      rw [ex] at HU hu HR
      rw [ey] at d0 HR
      obtain ⟨uo, uc, rfl, _⟩ := hpx.uses
      rw [ex] at d1 HU
      have C3 := fun z h => hide (l08In_any (.slice uo x.uses.length uc) x.uses y.name z h hu)
      rw [HR.out] at C3
      clear hpc hmc e7 e8 e9 e10 hpx hmx ex ey hi2 hm2
      have C1' := fun k => hide (Calls.quiet_of_same (w := W1) (n := k) (unhide (C1 (W1.drewN k))))
      have C2' := fun k => hide (Calls.quiet_of_same (w := W1) (n := k) (unhide (C2 (W1.drewN k))))
      have C3' := fun k => hide (Calls.quiet_of_same (w := W1) (n := k) (unhide (C3 (W1.drewN k) (HU.out.stays (below_drewN (Below.refl _ _) _)))))
      clear C1 C2 C3
      go_enter Tryz.func14, Tryz.ntmps14
      go_wp2_with fail
      rw [HWW.out]
      go_quiet (first
        | (go_at_call 31; first | with_reducible exact unhide (C1' _) | with_reducible exact unhide (C2' _))
        | (go_at_call 33; with_reducible exact unhide (C3' _)))
      all_goals go_wp2
      all_goals go_ret
      all_goals exact ⟨rfl, below_drewN HB.out _⟩
end Go.Proofs.YtpdpmnkonkpheaaGreat

namespace Go.Proofs.YtpdpmnkonkpheaaGreat
open Go.RowKit

/-- A call of this name. -/
def callQ (nm : ByteArray) (x : Nd) : Bool := decide (x.kind = 14) && decide (x.name = nm)
def callsAt (ns : List Nd) (ls : List Int) (nm : ByteArray) : Bool := ls.any fun k => callQ nm (ns.getD k.toNat default)
/-- The monitors among the first so many that are called. -/
def callsTo (ns : List Nd) (ls : List Int) (ms : List Mo) (i : Nat) : List Int := ((List.range i).filter fun m => callsAt ns ls (ms.getD m default).name).map fun m : Nat => (m : Int)
theorem callsTo_yes {ns : List Nd} {ls : List Int} {ms : List Mo} {i : Nat} (h : callsAt ns ls (ms.getD i default).name = true) : callsTo ns ls ms (i + 1) = callsTo ns ls ms i ++ [(i : Int)] := by
  unfold callsTo
  have e : List.filter (fun m => callsAt ns ls (ms.getD m default).name) [i] = [i] := by rw [List.filter_cons, h]; rfl
  rw [List.range_succ, List.filter_append, List.map_append, e]
  rfl
theorem callsTo_no {ns : List Nd} {ls : List Int} {ms : List Mo} {i : Nat} (h : callsAt ns ls (ms.getD i default).name = false) : callsTo ns ls ms (i + 1) = callsTo ns ls ms i := by
  unfold callsTo
  have e : List.filter (fun m => callsAt ns ls (ms.getD m default).name) [i] = [] := by rw [List.filter_cons, h]; rfl
  rw [List.range_succ, List.filter_append, e, List.append_nil]
theorem callsTo_len (ns : List Nd) (ls : List Int) (ms : List Mo) (i : Nat) : (callsTo ns ls ms i).length ≤ i := by
  unfold callsTo
  rw [List.length_map]
  have := List.length_filter_le (fun m => callsAt ns ls (ms.getD m default).name) (List.range i)
  rw [List.length_range] at this
  exact this
/-- Two rows of numbers that are owned, in different blocks. -/
structure I2 (B : Nat) (v1 : Value) (L1 : List Int) (v2 : Value) (L2 : List Int) (w : World) : Prop where
  o1 : w.ownsRow B 3 1 v1 L1.length (L1.map I64)
  o2 : w.ownsRow B 3 1 v2 L2.length (L2.map I64)
  ne : v1.ownBlock ≠ v2.ownBlock
theorem I2.stays {B : Nat} {v1 v2 : Value} {L1 L2 : List Int} {w w' : World} (h : I2 B v1 L1 v2 L2 w) (hb : Below w.heap.size w w') : I2 B v1 L1 v2 L2 w' := ⟨ownsInts_stays h.o1 hb, ownsInts_stays h.o2 hb, h.ne⟩
theorem wpList_app_i2 {w : World} {ops : Array Oper} {rest : List Oper} {o : Oper} {a : Act} {Q : Exit → Act → World → Prop} {kb : Nat} (hkb : kb = w.heap.size) (hgd : o.guard = none) (sl x : Operand)
    (ho : o.op = .call { callee := .builtin .append, args := #[sl, x], argTypes := #[41, 41] })
    {B : Nat} {v1 v2 : Value} {L1 L2 : List Int} {k : Int} (h : I2 B v1 L1 v2 L2 w) (hs : a.eval sl = v1) (hx : a.eval x = .slice (some ⟨kb, 0, none⟩) 1 1) (hB : B ≤ w.heap.size) (hn : L1.length ≤ 2000000)
    (hK : ∀ v' w', I2 B v' (L1 ++ [k]) v2 L2 w' → Below B w w' → BoxesKept 3 w w' → wpList Tryz.prog ops Q rest (a.put o.dst v') w') : wpList Tryz.prog ops Q (o :: rest) a (w.alloc (.cells #[.int .i64 k] 3)) := by
  subst hkb
  obtain ⟨i, hi, hz0, hz1, hz2⟩ := info_parts Tryz.infoInt
  have hA : Below w.heap.size w (w.alloc (.cells #[.int .i64 k] 3)) := (Below.refl _ _).alloc (Nat.le_refl _) _
  have hR := h.stays hA
  have hsz : (w.alloc (.cells #[.int .i64 k] 3)).heap.size = w.heap.size + 1 := by simp
  refine wpList_append_own_at _ hgd sl x 41 ho B 3 i (.int .i64 0) 1 8 Tryz.underlying41 hi hz0 hz1 hz2 rfl (by decide) v1 _ _ hs hR.o1 ⟨w.heap.size, 0, none⟩ 1 1 [.int .i64 k] hx rfl (fun j u hj => ?_) (by intro u hu; simp at hu; subst hu; rfl) (by unfold maxLen; omega) (by omega) (by omega) ?_
  · rw [add_zero_at, World.cell?_alloc_new]
    simpa using hj
  · intro v' w' hown hgr _ hob
    have hb2 := (Below.refl B (w.alloc (.cells #[.int .i64 k] 3))).grown hgr (by omega) (fun j hj => (hR.o1.lt j hj).1)
    refine hK v' w' ⟨by rw [List.map_append, List.length_append]; exact hown, hR.o2.kept hgr (.inr (Ne.symm hR.ne)), ?_⟩ ((((Below.refl B w).alloc hB _)).trans hb2) (fun g' cs T hT hbx => boxes_grown hR.o1 hgr g' cs T hT ((Below.heap_alloc w _ g' hbx.lt).trans hbx))
    rcases hob with e | e
    · rw [e]; exact hR.ne
    · rw [e]
      intro e2
      have := (h.o2.lt _ e2.symm).2
      omega
structure BlZ (W z : World) : Prop where
  bel : Below W.heap.size W z
theorem BlZ.stays {W z z' : World} (h : BlZ W z) (hb : Below z.heap.size z z') : BlZ W z' := ⟨h.bel.trans (hb.mono h.bel.size)⟩
theorem Boxed.stays' {w z z' : World} {nv mv pv : Value} (h : Boxed w.heap.size z nv mv pv) (hb : Below (w.heap.size + 1) z z') : Boxed w.heap.size z' nv mv pv :=
  ⟨(hb.cell (p := ⟨w.heap.size, 0, none⟩) (Nat.lt_succ_self _)).trans h.c0, (hb.cell (p := ⟨w.heap.size, 1, none⟩) (Nat.lt_succ_self _)).trans h.c1, (hb.cell (p := ⟨w.heap.size, 2, none⟩) (Nat.lt_succ_self _)).trans h.c2, Nat.lt_of_lt_of_le h.lt hb.size⟩
/-- While calls are looked for. -/
structure CsZ (w : World) (nv mv pv : Value) (ns : List Nd) (ms : List Mo) (ov : Value) (out : List Int) (lv : Value) (ls : List Int) (z : World) : Prop where
  bp : Boxed w.heap.size z nv mv pv
  rows : I2 (w.heap.size + 1) ov out lv ls z
  bel : Below w.heap.size w z
theorem CsZ.stays {w : World} {nv mv pv : Value} {ns : List Nd} {ms : List Mo} {ov : Value} {out : List Int} {lv : Value} {ls : List Int} {z z' : World} (h : CsZ w nv mv pv ns ms ov out lv ls z) (hb : Below z.heap.size z z') : CsZ w nv mv pv ns ms ov out lv ls z' := ⟨h.bp.stays hb, h.rows.stays hb, h.bel.trans (hb.mono h.bel.size)⟩
def CoR (w : World) (nv mv pv : Value) (ns : List Nd) (ms : List Mo) (lv : Value) (ls : List Int) (ov iv : Value) (wr : World) : Prop := ∃ i : Nat, i ≤ ms.length ∧ iv = .int .i64 i ∧ Hid (CsZ w nv mv pv ns ms ov (callsTo ns ls ms i) lv ls wr)
def CiR (w : World) (nv mv pv : Value) (ns : List Nd) (ms : List Mo) (ov : Value) (out : List Int) (lv : Value) (ls : List Int) (nm : ByteArray) (sv iv : Value) (wr : World) : Prop := ∃ i : Nat, i ≤ ls.length ∧ iv = .int .i64 i ∧ sv = .bool (callsAt ns (ls.take i) nm) ∧ Hid (CsZ w nv mv pv ns ms ov out lv ls wr)
theorem callsAt_snoc (ns : List Nd) (ls : List Int) (k : Int) (nm : ByteArray) : callsAt ns (ls ++ [k]) nm = (callsAt ns ls nm || callQ nm (ns.getD k.toNat default)) := by
  unfold callsAt
  rw [List.any_append]
  simp

set_option maxRecDepth 100000 in
set_option maxHeartbeats 4000000 in
theorem specCallsOf_any (nv mv pv : Value) (ns : List Nd) (ms : List Mo) (ps : List Pr) (j b : Nat) (w : World) (hN : NdsAt w nv ns) (hM : MosAt w mv ms) (hP : PrsAt w pv ps) (hj : j < ps.length) (hb : ps[j].body = (b : Int)) (hk : b < ns.length) (hl : ns.length ≤ 1048576) (hml : ms.length ≤ 1048576) (hpl : ps.length ≤ 1048576) (hin : NsIn ns) (hkx : ∀ x ∈ ns, x.kids.length ≤ 1048576) (hK : ∀ x ∈ ns, ∀ y ∈ x.kids, 0 ≤ y ∧ y < (ns.length : Int)) (hD : deepS ns (b : Int) ≠ 0) :
    Calls Tryz.prog 13 #[.agg #[nv, mv, pv], .int .i64 (j : Int)] w fun e w' => ∃ v, e = .returned v ∧ w'.ownsRow w.heap.size 3 1 v (callsTo ns (plTo (undL ns ns.length b) ns.length) ms ms.length).length ((callsTo ns (plTo (undL ns ns.length b) ns.length) ms ms.length).map I64) ∧ Below w.heap.size w w' := by
  have hb1 : Below w.heap.size w (w.alloc (.cells #[nv, mv, pv] 33)) := (Below.refl _ _).alloc (Nat.le_refl _) _
  have hb2 : Below w.heap.size w ((w.alloc (.cells #[nv, mv, pv] 33)).alloc (.cells #[] 3)) := hb1.alloc hb1.size _
  have hb12 : Below (w.alloc (.cells #[nv, mv, pv] 33)).heap.size (w.alloc (.cells #[nv, mv, pv] 33)) ((w.alloc (.cells #[nv, mv, pv] 33)).alloc (.cells #[] 3)) := (Below.refl _ _).alloc (Nat.le_refl _) _
  have HX := hide ((Boxed.made w nv mv pv 33).stays hb12)
  have hsz : (w.alloc (.cells #[nv, mv, pv] 33)).heap.size = w.heap.size + 1 := by simp
  have HO := hide (ownsRow_empty (w.alloc (.cells #[nv, mv, pv] 33)) (w.heap.size + 1) 3 (by rw [hsz]; exact Nat.le_refl _))
  rw [hsz] at HO
  have HB := hide hb2
  have HN := hide hN
  have HM := hide hM
  have HP := hide hP
  have CI := fun z => hide (l01In_gen (j : Int) 0 ((ps.length : Int) - 1) z)
  have e1 : inZ 0 ((ps.length : Int) - 1) (j : Int) = true := inZ_yes.2 (by omega)
  rw [e1] at CI
  have hMs : SlV mv := by obtain ⟨a, c, e, _⟩ := hM; exact ⟨_, _, _, e⟩
  have CU := fun z h => hide (specNodesUnder_any nv mv pv ns b z h hMs hP.sl hk hl hin hkx hK hD)
  obtain ⟨ls, els⟩ : ∃ ls, plTo (undL ns ns.length b) ns.length = ls := ⟨_, rfl⟩
  have HLS : Hid (∀ y ∈ ls, 0 ≤ y ∧ y < (ns.length : Int)) := fun y hy => by
    rw [← els] at hy
    obtain ⟨q, hq, rfl⟩ := List.mem_map.1 hy
    have := List.mem_range.1 (List.mem_filter.1 hq).1
    omega
  have HLL : Hid (ls.length ≤ 1048576) := by
    have := plTo_len (undL ns ns.length b) ns.length
    rw [els] at this
    exact Nat.le_trans this hl
  rw [els] at CU ⊢
  clear els e1 hMs hK hkx hin hD
  obtain ⟨no, nc, rfl, _⟩ := hN
  obtain ⟨mo, mc, rfl, _⟩ := hM
  obtain ⟨po, pc, rfl, hpc⟩ := hP
  obtain ⟨pa, uv, vv, rfl, hpb, hpx⟩ := hpc j hj
  obtain ⟨r, hra⟩ : ∃ r, pa.add (j * 4) = r := ⟨_, rfl⟩
  rw [← block_add pa (j * 4), hra] at hpb
  rw [hra] at hpx
  have d3 := (hpx.stays HB.out hpb).c3
  rw [hb] at d3
  have hj0 : (0 : Int) ≤ (j : Int) := by omega
  have hj1 : (j : Int) < (ps.length : Int) := by omega
  clear hb1 hb2 hb12 hsz hpc hpx hb hpb
  obtain ⟨c0, c1, c2, _⟩ := HX.out
  obtain ⟨W1, hW⟩ : ∃ W1, (w.alloc (.cells #[.slice no ns.length nc, .slice mo ms.length mc, .slice (some pa) ps.length pc] 33)).alloc (.cells #[] 3) = W1 := ⟨_, rfl⟩
  have HW := hide hW
  rw [hW] at HX HO HB c0 c1 c2 d3
  clear hW
  go_enter Tryz.func13, Tryz.ntmps13
  go_wp2_with fail
  refine (unhide (CI _)).mono ?_
  rintro e w3 ⟨rfl, rfl⟩
  rw [HW.out]
  have CU1 := fun z (h : BlZ W1 z) => CU z (HN.out.stays (HB.out.trans (h.bel.mono HB.out.size)))
  go_wp2_with fail
  have D3 := hide d3
  have HRB : Hid (r.block < W1.heap.size) := World.block_lt_of_cell? W1 { block := r.block, off := r.off + 3 } d3
  have KC : Hid (∀ z, BlZ W1 z → (z.cell? { block := w.heap.size, off := 0 } = some (.slice no ns.length nc) ∧ z.cell? { block := w.heap.size, off := 1 } = some (.slice mo ms.length mc) ∧ z.cell? { block := w.heap.size, off := 2 } = some (.slice (some pa) ps.length pc) ∧ z.cell? { block := r.block, off := r.off + 3 } = some (.int .i64 (b : Int)) ∧ Hid (BlZ W1 z))) := fun z hz => by
    obtain ⟨c0, c1, c2, _⟩ := HX.out.stays hz.bel
    exact ⟨c0, c1, c2, (hz.bel.cell (p := { block := r.block, off := r.off + 3 }) HRB.out).trans D3.out, hz⟩
  have KV : Hid (∀ z, (z.cell? { block := w.heap.size, off := 0 } = some (.slice no ns.length nc) ∧ z.cell? { block := w.heap.size, off := 1 } = some (.slice mo ms.length mc) ∧ z.cell? { block := w.heap.size, off := 2 } = some (.slice (some pa) ps.length pc) ∧ z.cell? { block := r.block, off := r.off + 3 } = some (.int .i64 (b : Int)) ∧ Hid (BlZ W1 z)) → BlZ W1 z) := fun z hz => hz.2.2.2.2.out
  have KP : Hid (∀ z z', (z.cell? { block := w.heap.size, off := 0 } = some (.slice no ns.length nc) ∧ z.cell? { block := w.heap.size, off := 1 } = some (.slice mo ms.length mc) ∧ z.cell? { block := w.heap.size, off := 2 } = some (.slice (some pa) ps.length pc) ∧ z.cell? { block := r.block, off := r.off + 3 } = some (.int .i64 (b : Int)) ∧ Hid (BlZ W1 z)) → Below z.heap.size z z' → (z'.cell? { block := w.heap.size, off := 0 } = some (.slice no ns.length nc) ∧ z'.cell? { block := w.heap.size, off := 1 } = some (.slice mo ms.length mc) ∧ z'.cell? { block := w.heap.size, off := 2 } = some (.slice (some pa) ps.length pc) ∧ z'.cell? { block := r.block, off := r.off + 3 } = some (.int .i64 (b : Int)) ∧ Hid (BlZ W1 z'))) := fun z z' hz hb => KC.out _ ((KV.out _ hz).stays hb)
  have K0 := hide (KC.out _ ⟨(Below.refl _ _).drew⟩)
  clear c0 c1 c2 d3
  go_region_held3 (fun z => z.cell? { block := w.heap.size, off := 0 } = some (.slice no ns.length nc) ∧ z.cell? { block := w.heap.size, off := 1 } = some (.slice mo ms.length mc) ∧ z.cell? { block := w.heap.size, off := 2 } = some (.slice (some pa) ps.length pc) ∧ z.cell? { block := r.block, off := r.off + 3 } = some (.int .i64 (b : Int)) ∧ Hid (BlZ W1 z)) (first | exact K0.out | exact KP.out _ _ (by assumption) hb7) ((go_at_call 32; refine (unhide (CU1 _ (KV.out _ (by assumption)))).mono ?_; rintro e w7 ⟨lv, rfl, ho7, hb7⟩; have O7 := hide ho7; have H7 := hide hb7; have S7 := hide (KV.out _ (by assumption)); clear ho7))
  have Z0 : Hid (CsZ w (.slice no ns.length nc) (.slice mo ms.length mc) (.slice (some pa) ps.length pc) ns ms (.slice (some ⟨w.heap.size + 1, 0, none⟩) 0 0) [] lv ls w7) := by
    have hb : Below W1.heap.size W1 w7 := S7.out.bel.trans H7.out
    have hlt := (HO.out.lt (w.heap.size + 1) rfl).2
    refine ⟨HX.out.stays hb, ⟨ownsInts_stays HO.out hb, ownsRow_low O7.out (by show w.heap.size + 1 ≤ W1.heap.size; omega), ?_⟩, HB.out.trans (hb.mono HB.out.size)⟩
    intro e
    have h1 := (O7.out.lt _ e.symm).1
    have h2 : W1.heap.size ≤ w.heap.size + 1 := h1
    omega
  obtain ⟨lo, lc, rfl, _⟩ := ints_own Z0.out.rows.o2
  clear S7 H7 O7 HO HB HX D3 HRB KC KV KP K0 CI CU CU1 HW
  obtain ⟨n, en⟩ : ∃ n, ns.length = n := ⟨_, rfl⟩
  have EN := hide en
  obtain ⟨q, eq⟩ : ∃ q, ms.length = q := ⟨_, rfl⟩
  have EQ := hide eq
  obtain ⟨t, et⟩ : ∃ t, ls.length = t := ⟨_, rfl⟩
  have ET := hide et
  have hlt := HLL.out
  rw [en] at hl hk
  rw [eq] at hml
  rw [et] at hlt
  rw [en, eq, et] at Z0
  rw [en, eq, et]
  rw [en] at HN
  rw [eq] at HM
  clear en eq et
  go_wp2
  go_loopw [5, 7] (CoR w (.slice no n nc) (.slice mo q mc) (.slice (some pa) ps.length pc) ns ms (.slice lo t lc) ls) (fun _ iv _ => q - (intOf iv).toNat)
  case atStart => exact ⟨0, by omega, rfl, Z0.out⟩
  case round =>
    clear Z0
    obtain ⟨i, hi, rfl, Z⟩ := hrel
    rw [EQ.out] at hi
    obtain ⟨c0, c1, c2, _⟩ := Z.out.bp
    by_cases hlt1 : i < q
    · have hlt' : (i : Int) < (q : Int) := by omega
      have hi0 : (0 : Int) ≤ (i : Int) := by omega
      have hix : i < ms.length := by rw [EQ.out]; exact hlt1
      obtain ⟨mo', mc', e5, hmc⟩ := HM.out
      injection e5 with e6 e7 e8
      subst e6
      obtain ⟨ma, v1, v2, v3, rfl, hmb, hmx⟩ := hmc i hix
      obtain ⟨rm, hrm⟩ : ∃ r, ma.add (i * 4) = r := ⟨_, rfl⟩
      rw [← block_add ma (i * 4), hrm] at hmb
      rw [hrm] at hmx
      have HGD : Hid (ms.getD i default = ms[i]) := by show _ = _; rw [List.getD_eq_getElem?_getD, List.getElem?_eq_getElem hix]; rfl
      have HYES := hide (callsTo_yes (ns := ns) (ls := ls) (ms := ms) (i := i))
      have HNO := hide (callsTo_no (ns := ns) (ls := ls) (ms := ms) (i := i))
      rw [HGD.out] at HYES HNO
      obtain ⟨nm, enm⟩ : ∃ nm, ms[i].name = nm := ⟨_, rfl⟩
      rw [enm] at HYES HNO
      have M0 : Hid (∀ z, Below w.heap.size w z → z.cell? rm = some (.string nm)) := fun z hz => by rw [← enm]; exact (hmx.stays hz hmb).c0
      clear hmx hmc e7 e8 HGD enm hix hmb
      have hol := callsTo_len ns ls ms i
      obtain ⟨OL, eOL⟩ : ∃ OL, callsTo ns ls ms i = OL := ⟨_, rfl⟩
      rw [eOL] at Z HYES HNO hol
      clear eOL
      go_wp2
      clear c0 c1 c2
      go_loopw [8, 9] (CiR w (.slice no n nc) (.slice (some ma) q mc) (.slice (some pa) ps.length pc) ns ms u5 OL (.slice lo t lc) ls nm) (fun _ iv _ => t - (intOf iv).toNat)
      case atStart => exact ⟨0, by omega, rfl, rfl, Z.out⟩
      case round =>
        clear Z
        obtain ⟨k, hk2, rfl, rfl, Z⟩ := hrel
        rw [ET.out] at hk2
        obtain ⟨c0, c1, c2, _⟩ := Z.out.bp
        by_cases hlt2 : k < t
        · have hlt2' : (k : Int) < (t : Int) := by omega
          have hk0 : (0 : Int) ≤ (k : Int) := by omega
          have hkx : k < ls.length := by rw [ET.out]; exact hlt2
          have HT : Hid (callsAt ns (ls.take (k + 1)) nm = (callsAt ns (ls.take k) nm || callQ nm (ns.getD ls[k].toNat default))) := by
            show _ = _
            rw [List.take_succ_eq_append_getElem hkx, callsAt_snoc]
          obtain ⟨lo', lc', e5, hlc⟩ := ints_own Z.out.rows.o2
          injection e5 with e6 e7 e8
          subst e6
          obtain ⟨la, rfl, hlb, hy⟩ := hlc k hkx
          obtain ⟨hy0, hy1⟩ := HLS.out _ (List.getElem_mem hkx)
          obtain ⟨y, ey⟩ : ∃ y : Nat, ls[k] = (y : Int) := ⟨ls[k].toNat, by omega⟩
          rw [ey] at hy HT hy0 hy1
          rw [Int.toNat_natCast] at HT
          have hyx : y < ns.length := by omega
          have hyn : (y : Int) < (n : Int) := by rw [← EN.out]; omega
          have HGD : Hid (ns.getD y default = ns[y]) := by show _ = _; rw [List.getD_eq_getElem?_getD, List.getElem?_eq_getElem hyx]; rfl
          rw [HGD.out] at HT
          obtain ⟨na, ncc, p, kv, e5, hpa, hpb, hnode⟩ := HN.out.node y hyx
          injection e5 with e6 e9 e10
          subst e6
          obtain ⟨d0, d1, d2, d3, d4, d5, _⟩ := hnode.stays Z.out.bel hpb
          obtain ⟨ko, kc, rfl, _⟩ := hnode.kids
          obtain ⟨x, ex⟩ : ∃ x, ns[y] = x := ⟨_, rfl⟩
          rw [ex] at d0 d1 d2 d3 d4 d5 HT
          obtain ⟨kd, nu, xn, xm, xi, ks⟩ := x
          dsimp only at d0 d1 d2 d3 d4 d5
          have AL : ∀ o, Below wr.heap.size wr (wr.alloc o) := fun o => (Below.refl _ _).alloc (Nat.le_refl _) o
          have ya := fun o => ((AL o).cell (p := la.add k) (by rw [block_add]; exact hlb)).trans hy
          have hpw : p.block < wr.heap.size := Nat.lt_of_lt_of_le hpb Z.out.bel.size
          have a0 := fun o => ((AL o).cell (p := p) hpw).trans d0
          have a1 := fun o => ((AL o).cell (p := { block := p.block, off := p.off + 1 }) hpw).trans d1
          have a2 := fun o => ((AL o).cell (p := { block := p.block, off := p.off + 2 }) hpw).trans d2
          have a3 := fun o => ((AL o).cell (p := { block := p.block, off := p.off + 3 }) hpw).trans d3
          have a4 := fun o => ((AL o).cell (p := { block := p.block, off := p.off + 4 }) hpw).trans d4
          have a5 := fun o => ((AL o).cell (p := { block := p.block, off := p.off + 5 }) hpw).trans d5
          have b0 := fun o => (Z.out.stays (AL o)).bp.c0
          have ZA := fun o => hide ((Z.out.stays (AL o)).stays (Below.refl _ _).drew)
          clear hlc e7 e8 e9 e10 ey hnode HGD ex hkx AL
          go_wp2_with fail
          go_region
          have Z5 := hide ((ZA (.cells #[.int .i64 kd, .int .i64 nu, .string xn, .string xm, .string xi, .slice ko ks.length kc] 73)).out)
          have B5 : Hid (Box (wr.alloc (.cells #[.int .i64 kd, .int .i64 nu, .string xn, .string xm, .string xi, .slice ko ks.length kc] 73)).drew wr.heap.size #[.int .i64 kd, .int .i64 nu, .string xn, .string xm, .string xi, .slice ko ks.length kc] 73) := Box.made wr _ _
          obtain ⟨W5, hW5⟩ : ∃ W5, (wr.alloc (.cells #[.int .i64 kd, .int .i64 nu, .string xn, .string xm, .string xi, .slice ko ks.length kc] 73)).drew = W5 := ⟨_, rfl⟩
          rw [hW5] at Z5 B5 ⊢
          obtain ⟨gx, egx⟩ : ∃ gx, wr.heap.size = gx := ⟨_, rfl⟩
          rw [egx] at B5 ⊢
          clear hW5 egx a0 a1 a2 a3 a4 a5 b0 ya d0 d1 d2 d3 d4 d5 hy c0 c1 c2 ZA hpw hpb hlb Z
          have e0 := Lib.cell_of_heap B5.out 0
          have e2 := Lib.cell_of_heap B5.out 2
          simp only [List.getElem?_toArray, List.getElem?_cons_succ, List.getElem?_cons_zero] at e0 e2
          obtain ⟨c0, c1, c2, _⟩ := Z5.out.bp
          have m0 := M0.out _ Z5.out.bel
          obtain ⟨S, eS⟩ : ∃ S, callsAt ns (ls.take k) nm = S := ⟨_, rfl⟩
          rw [eS] at HT ⊢
          clear eS
          have ECQ : Hid (callQ nm ⟨kd, nu, xn, xm, xi, ks⟩ = (decide (kd = 14) && (xn.toList == nm.toList))) := by
            show _ = _
            unfold callQ
            congr 1
            by_cases h : xn = nm
            · rw [decide_eq_true h]; exact (str_beq.2 h).symm
            · rw [decide_eq_false h]; exact (Bool.eq_false_iff.2 fun q => h (str_beq.1 q)).symm
          rw [ECQ.out] at HT
          clear ECQ
          have FIN : Hid (∀ z R, callsAt ns (ls.take (k + 1)) nm = R → CsZ w (.slice (some na) n nc) (.slice (some ma) q mc) (.slice (some pa) ps.length pc) ns ms u5 OL (.slice (some la) t lc) ls z → CiR w (.slice (some na) n nc) (.slice (some ma) q mc) (.slice (some pa) ps.length pc) ns ms u5 OL (.slice (some la) t lc) ls nm (.bool R) (.int .i64 ((k : Int) + 1)) z) := fun z R hR hz => ⟨k + 1, by rw [ET.out]; omega, by go_num, by rw [hR], hz⟩
          have ZD := fun m => hide (Z5.out.stays (below_drewN (Below.refl W5.heap.size W5) m))
          cases S with
          | true =>
            have HR : Hid (callsAt ns (ls.take (k + 1)) nm = true) := by rw [HT.out]; exact hide rfl
            go_wp2_with fail
            go_quiet (fail)
            all_goals go_wp2
            all_goals go_roundw
            all_goals first
              | (simp [intOf]; omega)
              | exact FIN.out _ _ HR.out (ZD _).out
          | false =>
            by_cases hk14 : kd = 14
            · subst hk14
              obtain ⟨b2, eb2⟩ : ∃ b2, (xn.toList == nm.toList) = b2 := ⟨_, rfl⟩
              have HR : Hid (callsAt ns (ls.take (k + 1)) nm = b2) := by rw [HT.out, eb2]; exact hide (by simp)
              go_wp2_with fail
              go_quiet (fail)
              all_goals go_wp2
              all_goals go_roundw
              all_goals first
                | (simp [intOf]; omega)
                | exact FIN.out _ _ HR.out (ZD _).out
            · have hk14' : (kd == 14) = false := by simpa using hk14
              have HR : Hid (callsAt ns (ls.take (k + 1)) nm = false) := by rw [HT.out, decide_eq_false hk14]; exact hide rfl
              go_wp2_with fail
              go_quiet (fail)
              all_goals go_wp2
              all_goals go_roundw
              all_goals first
                | (simp [intOf]; omega)
                | exact FIN.out _ _ HR.out (ZD _).out
        · have hlt2' : ¬ (k : Int) < (t : Int) := by omega
          have e9 : ls.take k = ls := List.take_of_length_le (by rw [ET.out]; omega)
          rw [e9]
          cases hS : callsAt ns ls nm with
          | false =>
            have HC := hide (HNO.out hS)
            clear hS
            go_wp2
            go_roundw
            case rel => exact ⟨i + 1, by rw [EQ.out]; omega, by go_num, by rw [HC.out]; exact Z.out⟩
            case measure => simp [intOf]; omega
          | true =>
            have HC := hide (HYES.out hS)
            have hwz : w.heap.size + 1 ≤ wr.heap.size := Z.out.bp.lt
            clear hS
            go_wp2_with (at_builtin; refine wpList_app_i2 (kb := wr.heap.size) rfl rfl (.tmp 67) (.tmp 69) rfl Z.out.rows rfl rfl hwz (by omega) ?_)
            intro v5 w5 hr5 hb5 hk5
            rw [← HC.out] at hr5
            have Z5 : Hid (CsZ w (.slice no n nc) (.slice (some ma) q mc) (.slice (some pa) ps.length pc) ns ms v5 (callsTo ns ls ms (i + 1)) (.slice lo t lc) ls w5) := ⟨Z.out.bp.stays' hb5, hr5, Z.out.bel.trans (hb5.mono (Nat.le_succ _))⟩
            clear hr5 hb5 hk5
            have RR : CoR w (.slice no n nc) (.slice (some ma) q mc) (.slice (some pa) ps.length pc) ns ms (.slice lo t lc) ls v5 (.int .i64 ((i : Int) + 1)) w5 := ⟨i + 1, by rw [EQ.out]; omega, by go_num, Z5.out⟩
            go_wp2
            go_roundw
            case rel => exact RR
            case measure => simp [intOf]; omega
    · have hlt' : ¬ (i : Int) < (q : Int) := by omega
      have e9 : i = q := by omega
      subst e9
      go_wp2
      go_ret
      exact ⟨_, rfl, by rw [EQ.out]; exact ownsRow_low Z.out.rows.o1 (Nat.le_succ _), Z.out.bel⟩
end Go.Proofs.YtpdpmnkonkpheaaGreat
