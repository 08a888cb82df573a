/-
  Scopes, by the specification: the names of values that may stand at a home.
-/
import Derived.Test.YtpdpmnkonkpheaaGreatImpQ
import Derived.Test.YtpdpmnkonkpheaaGreatPureP
import Derived.Test.YtpdpmnkonkpheaaGreatImvF
import Derived.Test.YtpdpmnkonkpheaaGreatRowQ
import Derived.Test.YtpdpmnkonkpheaaGreatAid
import Derived.Deep.RegionHeld3
import Derived.BigQuiet
import Derived.Handy
import Derived.Test.YtpdpmnkonkpheaaGreatChecked
import Derived.WalkSmall
namespace Go.Proofs.YtpdpmnkonkpheaaGreat
open Go.RowKit

/-- A row of texts appended at a step of a statement that leaves its order open. -/
theorem step_app_strs {P : Program} {w : World} {ops : Array Oper} {o : Oper} {a : Act} {K : Act → World → Prop} {Q : Exit → Act → World → Prop} {E : Prop} (hgd : o.guard = none) (s x : Operand) (t : TypeId)
    (ho : o.op = .call { callee := .builtin .append, args := #[s, x], argTypes := #[t, t] })
    (base : Nat) (e : TypeId) (z : Value) (bytes : Nat) (ht : P.underlying t = some (.slice e)) (hi : (P.info? e).map (fun i => (i.zero, i.size, i.bytes)) = some (some z, 1, bytes)) (hzs : z.cells.size = 1)
    (v : Value) (n : Nat) (xs : List Value) (hs : a.eval s = v) (hown : w.ownsRow base e 1 v n xs)
    (xv : Value) (news : List ByteArray) (hx : a.eval x = xv) (hat : StrsAt w xv news)
    (h63 : n + news.length ≤ maxLen) (hbytes : (n + news.length) * bytes ≤ 140737488355328) (hbase : base ≤ w.heap.size)
    (h : ∀ v' w', w'.ownsRow base e 1 v' (n + news.length) (xs ++ news.map Value.string) → Below base w w' → K (a.put o.dst v') w') :
    if Region.wanted o (yielded ops a.tmps) = true then Oper.wp P o a w K Q else E := by
  obtain ⟨ao, c, rfl, hc⟩ := hat
  cases ao with
  | some ad =>
    refine step_appn hgd s x t ho base e z bytes ht hi hzs v n xs hs hown ad news.length c (news.map Value.string) hx (by simp) (fun j u hj => ?_) (fun u hu => ?_) h63 hbytes hbase h
    · rw [List.getElem?_map] at hj
      obtain ⟨y, hy, rfl⟩ := Option.map_eq_some_iff.1 hj
      obtain ⟨hj2, rfl⟩ := List.getElem?_eq_some_iff.1 hy
      obtain ⟨a', ha, _, hcell⟩ := hc j hj2
      cases ha
      exact hcell
    · obtain ⟨y, _, rfl⟩ := List.mem_map.1 hu
      rfl
  | none =>
    have h0 : news = [] := by
      rcases news with _ | ⟨y, news⟩
      · rfl
      · obtain ⟨a', ha, _⟩ := hc 0 (by simp)
        simp at ha
    subst h0
    obtain ⟨i, hi2, _, _, _⟩ := info_parts hi
    have hv : ∃ b cap, v = .slice b n cap ∧ n ≤ cap := by
      rcases hown.2 with ⟨rfl, rfl⟩ | ⟨g, cap, cur, rfl, _, _, hr, _⟩
      · exact ⟨none, 0, rfl, Nat.le_refl _⟩
      · exact ⟨_, cap, rfl, hr⟩
    obtain ⟨b, cap, rfl, hr⟩ := hv
    have hrun := fun ty => run_append_none (P := P) w t ty e i ht hi2 b n cap c hr
    have hk := h (.slice b n cap) w (by simpa using hown) (Below.refl _ _)
    have hw : Region.wanted o (yielded ops a.tmps) = true := by simp [Region.wanted, hgd]
    rw [if_pos hw]
    unfold Oper.wp execOp
    simp only [ho, resolve, invoke, builtin, Sem.run_bind, Sem.run_pure, Result.andThen_ok, List.map_toArray, List.map_cons, List.map_nil, hs, hx]
    simp only [List.length_nil]
    rw [hrun]
    exact hk
theorem Tryz.infoStrV : (Tryz.prog.info? 9).map (fun i => (i.zero, i.size, i.bytes)) = some (some (.string ⟨#[]⟩), 1, 16) := by kernel_rfl
/-- An owned row of texts can be read. -/
theorem StrsAt.own {base n : Nat} {w : World} {v : Value} {xs : List ByteArray} (h : w.ownsRow base 9 1 v n (xs.map Value.string)) : StrsAt w v xs := by
  have hl : xs.length = n := by simpa using h.1
  rcases h.2 with ⟨rfl, rfl⟩ | ⟨g, cap, cur, rfl, hb, hg, hr⟩
  · obtain rfl := List.length_eq_zero_iff.1 hl
    exact ⟨none, 0, rfl, fun j hj => absurd hj (Nat.not_lt_zero j)⟩
  · refine ⟨some ⟨g, 0, none⟩, cap, by rw [hl], fun j hj => ⟨⟨g, 0, none⟩, rfl, ?_, ?_⟩⟩
    · exact (h.lt g rfl).2
    · rw [add_zero_at, h.cellAt j (by omega), List.getElem?_map, List.getElem?_eq_getElem hj]
      rfl

set_option maxRecDepth 100000 in
set_option maxHeartbeats 2000000 in
theorem l08Vars_pro (nv mv pv : Value) (ps : List Pr) (i : Nat) (mi ei : Int) (w : World) (hN : SlV nv) (hM : SlV mv) (hP : PrsAt w pv ps) (hi : i < ps.length) :
    Calls Tryz.prog 58 #[.agg #[nv, mv, pv], .agg #[.int .i64 (i : Int), .int .i64 mi, .int .i64 ei]] w fun e w' => ∃ v, e = .returned v ∧ StrsAt w' v ps[i].vars ∧ Below w.heap.size w w' := by
  have hb1 : Below w.heap.size w (w.alloc (.cells #[nv, mv, pv] 33)) := (Below.refl _ _).alloc (Nat.le_refl _) _
  have hb2 : Below w.heap.size w ((w.alloc (.cells #[nv, mv, pv] 33)).alloc (.cells #[.int .i64 (i : Int), .int .i64 mi, .int .i64 ei] 71)) := hb1.alloc hb1.size _
  have HB := hide hb2
  have hz : (w.alloc (.cells #[nv, mv, pv] 33)).heap.size = w.heap.size + 1 := by simp
  have HX := ((Boxed.made w nv mv pv 33).stays ((Below.refl _ (w.alloc (.cells #[nv, mv, pv] 33))).alloc (Nat.le_refl _) (.cells #[.int .i64 (i : Int), .int .i64 mi, .int .i64 ei] 71))).c2
  have hh := Lib.cell_of_heap (Box.made (w.alloc (.cells #[nv, mv, pv] 33)) #[.int .i64 (i : Int), .int .i64 mi, .int .i64 ei] 71) 0
  rw [hz] at hh
  have hi0 : (0 : Int) ≤ (i : Int) := by omega
  obtain ⟨ao, c, epv, hc⟩ := hP.stays hb2
  obtain ⟨a, uv, vv, ea, hpb, hx⟩ := hc i hi
  obtain ⟨r, hra⟩ : ∃ r, a.add (i * 4) = r := ⟨_, rfl⟩
  rw [hra] at hx
  have d2 := hx.c2
  have HV := hide hx.vars
  subst epv
  subst ea
  obtain ⟨o1, n1, c1, rfl⟩ := hN
  obtain ⟨o2, n2, c2, rfl⟩ := hM
  obtain ⟨o3, c3, rfl, _⟩ := hx.vars
  have hi1 : (i : Int) < (ps.length : Int) := by omega
  simp at hh
  clear hb1 hb2 hz hP hc hx
  go_enter Tryz.func58, Tryz.ntmps58
  go_wp2
  go_ret
  exact ⟨_, rfl, HV.out, HB.out⟩

/-- While the names at an entry are put together: the boxes of the program, of the home, of the monitor. -/
structure VmZ (w : World) (nv mv pv : Value) (i k : Int) (nm : ByteArray) (vv qv ev : Value) (vs : List ByteArray) (es : List En) (z : World) : Prop where
  bp : Boxed w.heap.size z nv mv pv
  bh : Box z (w.heap.size + 1) #[.int .i64 (-1), .int .i64 i, .int .i64 k] 71
  bm : Box z (w.heap.size + 2) #[.string nm, vv, qv, ev] 76
  vars : StrsAt z vv vs
  ents : EnsAt z ev es
  bel : Below w.heap.size w z
theorem VmZ.stays {w : World} {nv mv pv : Value} {i k : Int} {nm : ByteArray} {vv qv ev : Value} {vs : List ByteArray} {es : List En} {z z' : World} (h : VmZ w nv mv pv i k nm vv qv ev vs es z) (hb : Below z.heap.size z z') : VmZ w nv mv pv i k nm vv qv ev vs es z' :=
  ⟨h.bp.stays hb, h.bh.stays hb, h.bm.stays hb, h.vars.stays hb, h.ents.stays hb, h.bel.trans (hb.mono h.bel.size)⟩

set_option maxRecDepth 100000 in
set_option maxHeartbeats 2000000 in
theorem l08Vars_mon (nv mv pv : Value) (ms : List Mo) (i k : Nat) (w : World) (hN : SlV nv) (hM : MosAt w mv ms) (hP : SlV pv) (hi : i < ms.length) (hk : k < ms[i].ents.length) (hl : ms[i].vars.length ≤ 1048576) :
    Calls Tryz.prog 58 #[.agg #[nv, mv, pv], .agg #[.int .i64 (-1), .int .i64 (i : Int), .int .i64 (k : Int)]] w fun e w' => ∃ v, e = .returned v ∧ StrsAt w' v (ms[i].ents[k].param :: resultN :: ms[i].vars) ∧ Below w.heap.size w w' := by
  have hb1 : Below w.heap.size w (w.alloc (.cells #[nv, mv, pv] 33)) := (Below.refl _ _).alloc (Nat.le_refl _) _
  have hb2 : Below w.heap.size w ((w.alloc (.cells #[nv, mv, pv] 33)).alloc (.cells #[.int .i64 (-1), .int .i64 (i : Int), .int .i64 (k : Int)] 71)) := hb1.alloc hb1.size _
  have hz : (w.alloc (.cells #[nv, mv, pv] 33)).heap.size = w.heap.size + 1 := by simp
  have hz2 : ((w.alloc (.cells #[nv, mv, pv] 33)).alloc (.cells #[.int .i64 (-1), .int .i64 (i : Int), .int .i64 (k : Int)] 71)).heap.size = w.heap.size + 2 := by simp
  have hbx : Below (w.alloc (.cells #[nv, mv, pv] 33)).heap.size (w.alloc (.cells #[nv, mv, pv] 33)) ((w.alloc (.cells #[nv, mv, pv] 33)).alloc (.cells #[.int .i64 (-1), .int .i64 (i : Int), .int .i64 (k : Int)] 71)) := (Below.refl _ _).alloc (Nat.le_refl _) _
  have BP := (Boxed.made w nv mv pv 33).stays hbx
  have BH := Box.made (w.alloc (.cells #[nv, mv, pv] 33)) #[.int .i64 (-1), .int .i64 (i : Int), .int .i64 (k : Int)] 71
  rw [hz] at BH
  obtain ⟨ao, c, emv, hc⟩ := hM.stays hb2
  obtain ⟨a, vv, qv, ev, ea, hpb, hx⟩ := hc i hi
  obtain ⟨r, hra⟩ : ∃ r, a.add (i * 4) = r := ⟨_, rfl⟩
  rw [hra] at hx
  subst emv
  subst ea
  have hx' := hx
  obtain ⟨d0, d1, d2, d3, ⟨o1, k1, rfl, _⟩, ⟨o2, k2, rfl, _⟩, ⟨o3, k3, rfl, hec⟩⟩ := hx
  obtain ⟨b, rfl, _, hen⟩ := hec k hk
  obtain ⟨r2, hrb⟩ : ∃ r2, b.add (k * 3) = r2 := ⟨_, rfl⟩
  have hb3 : Below w.heap.size w (((w.alloc (.cells #[nv, .slice (some a) ms.length c, pv] 33)).alloc (.cells #[.int .i64 (-1), .int .i64 (i : Int), .int .i64 (k : Int)] 71)).alloc (.cells #[.string ms[i].name, .slice o1 ms[i].vars.length k1, .slice o2 ms[i].queues.length k2, .slice (some b) ms[i].ents.length k3] 76)) := hb2.alloc hb2.size _
  have hb4 : Below ((w.alloc (.cells #[nv, .slice (some a) ms.length c, pv] 33)).alloc (.cells #[.int .i64 (-1), .int .i64 (i : Int), .int .i64 (k : Int)] 71)).heap.size ((w.alloc (.cells #[nv, .slice (some a) ms.length c, pv] 33)).alloc (.cells #[.int .i64 (-1), .int .i64 (i : Int), .int .i64 (k : Int)] 71)) (((w.alloc (.cells #[nv, .slice (some a) ms.length c, pv] 33)).alloc (.cells #[.int .i64 (-1), .int .i64 (i : Int), .int .i64 (k : Int)] 71)).alloc (.cells #[.string ms[i].name, .slice o1 ms[i].vars.length k1, .slice o2 ms[i].queues.length k2, .slice (some b) ms[i].ents.length k3] 76)) := (Below.refl _ _).alloc (Nat.le_refl _) _
  have BM := Box.made ((w.alloc (.cells #[nv, .slice (some a) ms.length c, pv] 33)).alloc (.cells #[.int .i64 (-1), .int .i64 (i : Int), .int .i64 (k : Int)] 71)) #[.string ms[i].name, .slice o1 ms[i].vars.length k1, .slice o2 ms[i].queues.length k2, .slice (some b) ms[i].ents.length k3] 76
  rw [hz2] at BM
  have Z0 : Hid (VmZ w nv (.slice (some a) ms.length c) pv (i : Int) (k : Int) ms[i].name (.slice o1 ms[i].vars.length k1) (.slice o2 ms[i].queues.length k2) (.slice (some b) ms[i].ents.length k3) ms[i].vars ms[i].ents (((w.alloc (.cells #[nv, .slice (some a) ms.length c, pv] 33)).alloc (.cells #[.int .i64 (-1), .int .i64 (i : Int), .int .i64 (k : Int)] 71)).alloc (.cells #[.string ms[i].name, .slice o1 ms[i].vars.length k1, .slice o2 ms[i].queues.length k2, .slice (some b) ms[i].ents.length k3] 76))) :=
    ⟨BP.stays hb4, BH.stays hb4, BM, hx'.vars.stays hb4, hx'.ents.stays hb4, hb3⟩
  have q1 := BP.c1
  have p0 := Lib.cell_of_heap BH 0
  have p1 := Lib.cell_of_heap BH 1
  have p2 := Lib.cell_of_heap BH 2
  have hi0 : (0 : Int) ≤ (i : Int) := by omega
  have hi1 : (i : Int) < (ms.length : Int) := by omega
  have hk0 : (0 : Int) ≤ (k : Int) := by omega
  have hk1 : (k : Int) < (ms[i].ents.length : Int) := by omega
  obtain ⟨x, ex⟩ : ∃ x, ms[i] = x := ⟨_, rfl⟩
  simp only [ex] at d0 d1 d2 d3 Z0 hk1 hl hk ⊢
  obtain ⟨y, ey⟩ : ∃ y, x.ents[k] = y := ⟨_, rfl⟩
  have HEY : Hid (∀ z, EnsAt z (.slice (some b) x.ents.length k3) x.ents → z.cell? { block := r2.block, off := r2.off + 1 } = some (.string y.param)) := fun z hz => by
    obtain ⟨ao', c', e1, hc1⟩ := hz
    injection e1 with e2 e3 e4
    subst e2
    obtain ⟨b', eb, _, hz2⟩ := hc1 k hk
    cases eb
    rw [hrb, ey] at hz2
    exact hz2.c1
  simp only [ey]
  simp at p0 p1 p2
  obtain ⟨on, nn, cn, rfl⟩ := hN
  obtain ⟨op, np, cp, rfl⟩ := hP
  clear hb1 hb2 hz hz2 hbx BP BH BM hb3 hb4 hM hc hx' hen hec ex ey
  go_enter Tryz.func58, Tryz.ntmps58
  go_wp2_with fail
  generalize ((w.alloc (.cells #[.slice on nn cn, .slice (some a) ms.length c, .slice op np cp] 33)).alloc (.cells #[.int .i64 (-1), .int .i64 (i : Int), .int .i64 (k : Int)] 71)).alloc (.cells #[.string x.name, .slice o1 x.vars.length k1, .slice o2 x.queues.length k2, .slice (some b) x.ents.length k3] 76) = W4 at Z0 ⊢
  have KS : Hid (∀ z, VmZ w (.slice on nn cn) (.slice (some a) ms.length c) (.slice op np cp) (i : Int) (k : Int) x.name (.slice o1 x.vars.length k1) (.slice o2 x.queues.length k2) (.slice (some b) x.ents.length k3) x.vars x.ents z → (z.cell? ⟨w.heap.size + 2, 1, none⟩ = some (.slice o1 x.vars.length k1) ∧ z.cell? ⟨w.heap.size + 2, 3, none⟩ = some (.slice (some b) x.ents.length k3) ∧ z.cell? ⟨w.heap.size + 1, 2, none⟩ = some (.int .i64 (k : Int)) ∧ z.cell? { block := r2.block, off := r2.off + 1 } = some (.string y.param) ∧ Hid (VmZ w (.slice on nn cn) (.slice (some a) ms.length c) (.slice op np cp) (i : Int) (k : Int) x.name (.slice o1 x.vars.length k1) (.slice o2 x.queues.length k2) (.slice (some b) x.ents.length k3) x.vars x.ents z))) := fun z hz => ⟨Lib.cell_of_heap hz.bm 1, Lib.cell_of_heap hz.bm 3, Lib.cell_of_heap hz.bh 2, HEY.out z hz.ents, hz⟩
  have KP : Hid (∀ z z', (z.cell? ⟨w.heap.size + 2, 1, none⟩ = some (.slice o1 x.vars.length k1) ∧ z.cell? ⟨w.heap.size + 2, 3, none⟩ = some (.slice (some b) x.ents.length k3) ∧ z.cell? ⟨w.heap.size + 1, 2, none⟩ = some (.int .i64 (k : Int)) ∧ z.cell? { block := r2.block, off := r2.off + 1 } = some (.string y.param) ∧ Hid (VmZ w (.slice on nn cn) (.slice (some a) ms.length c) (.slice op np cp) (i : Int) (k : Int) x.name (.slice o1 x.vars.length k1) (.slice o2 x.queues.length k2) (.slice (some b) x.ents.length k3) x.vars x.ents z)) → Below z.heap.size z z' → (z'.cell? ⟨w.heap.size + 2, 1, none⟩ = some (.slice o1 x.vars.length k1) ∧ z'.cell? ⟨w.heap.size + 2, 3, none⟩ = some (.slice (some b) x.ents.length k3) ∧ z'.cell? ⟨w.heap.size + 1, 2, none⟩ = some (.int .i64 (k : Int)) ∧ z'.cell? { block := r2.block, off := r2.off + 1 } = some (.string y.param) ∧ Hid (VmZ w (.slice on nn cn) (.slice (some a) ms.length c) (.slice op np cp) (i : Int) (k : Int) x.name (.slice o1 x.vars.length k1) (.slice o2 x.queues.length k2) (.slice (some b) x.ents.length k3) x.vars x.ents z'))) := fun z z' hz hb => KS.out _ (hz.2.2.2.2.out.stays hb)
  have KV : Hid (∀ z, (z.cell? ⟨w.heap.size + 2, 1, none⟩ = some (.slice o1 x.vars.length k1) ∧ z.cell? ⟨w.heap.size + 2, 3, none⟩ = some (.slice (some b) x.ents.length k3) ∧ z.cell? ⟨w.heap.size + 1, 2, none⟩ = some (.int .i64 (k : Int)) ∧ z.cell? { block := r2.block, off := r2.off + 1 } = some (.string y.param) ∧ Hid (VmZ w (.slice on nn cn) (.slice (some a) ms.length c) (.slice op np cp) (i : Int) (k : Int) x.name (.slice o1 x.vars.length k1) (.slice o2 x.queues.length k2) (.slice (some b) x.ents.length k3) x.vars x.ents z)) → VmZ w (.slice on nn cn) (.slice (some a) ms.length c) (.slice op np cp) (i : Int) (k : Int) x.name (.slice o1 x.vars.length k1) (.slice o2 x.queues.length k2) (.slice (some b) x.ents.length k3) x.vars x.ents z) := fun z hz => hz.2.2.2.2.out
  have KL : Hid (∀ z, (z.cell? ⟨w.heap.size + 2, 1, none⟩ = some (.slice o1 x.vars.length k1) ∧ z.cell? ⟨w.heap.size + 2, 3, none⟩ = some (.slice (some b) x.ents.length k3) ∧ z.cell? ⟨w.heap.size + 1, 2, none⟩ = some (.int .i64 (k : Int)) ∧ z.cell? { block := r2.block, off := r2.off + 1 } = some (.string y.param) ∧ Hid (VmZ w (.slice on nn cn) (.slice (some a) ms.length c) (.slice op np cp) (i : Int) (k : Int) x.name (.slice o1 x.vars.length k1) (.slice o2 x.queues.length k2) (.slice (some b) x.ents.length k3) x.vars x.ents z)) → StrsAt z (.slice o1 x.vars.length k1) x.vars) := fun z hz => hz.2.2.2.2.out.vars
  have K0 := hide (KS.out _ (Z0.out.stays (Below.refl _ _).drew))
  have OWN : Hid ((W4.drew.alloc (.cells #[.string y.param, .string resultN] 9)).ownsRow W4.heap.size 9 1 (.slice (some ⟨W4.heap.size, 0, none⟩) 2 2) 2 [.string y.param, .string resultN]) := World.ownsRow_lit (base := W4.heap.size) (e := 9) (size := 1) W4.drew #[.string y.param, .string resultN] 2 (Nat.le_refl _) (by unfold maxLen; omega) rfl
  have h63 : 2 + x.vars.length ≤ maxLen := by unfold maxLen; omega
  have h64 : (2 + x.vars.length) * 16 ≤ 140737488355328 := by omega
  have HZ := hide Z0.out.bel.size
  clear Z0 p0 p1 p2 q1 d0 d1 d2 d3
  go_region_held3 (fun z => z.cell? ⟨w.heap.size + 2, 1, none⟩ = some (.slice o1 x.vars.length k1) ∧ z.cell? ⟨w.heap.size + 2, 3, none⟩ = some (.slice (some b) x.ents.length k3) ∧ z.cell? ⟨w.heap.size + 1, 2, none⟩ = some (.int .i64 (k : Int)) ∧ z.cell? { block := r2.block, off := r2.off + 1 } = some (.string y.param) ∧ Hid (VmZ w (.slice on nn cn) (.slice (some a) ms.length c) (.slice op np cp) (i : Int) (k : Int) x.name (.slice o1 x.vars.length k1) (.slice o2 x.queues.length k2) (.slice (some b) x.ents.length k3) x.vars x.ents z)) (first | exact K0.out | exact KP.out W4.drew _ K0.out ((Below.refl _ _).alloc (Nat.le_refl _) _) | exact KP.out W4.drew _ K0.out (((Below.refl W4.heap.size W4.drew).alloc (Nat.le_refl _) _).trans hb6))
    ((refine step_app_strs rfl _ _ 47 rfl W4.heap.size 9 (.string ⟨#[]⟩) 16 Tryz.underlying47 Tryz.infoStrV rfl _ 2 [.string y.param, .string resultN] rfl OWN.out _ x.vars rfl (KL.out _ (by assumption)) h63 h64 (by simp) ?_; intro v6 w6 ho6 hb6))
  all_goals (have D := hide (KV.out _ (by assumption)))
  all_goals (have HR : Hid (StrsAt _ v6 (y.param :: resultN :: x.vars)) := StrsAt.own (xs := y.param :: resultN :: x.vars) ho6)
  all_goals go_wp2
  all_goals go_ret
  all_goals exact ⟨_, rfl, HR.out, D.out.bel⟩
end Go.Proofs.YtpdpmnkonkpheaaGreat

namespace Go.Proofs.YtpdpmnkonkpheaaGreat
open Go.RowKit

set_option maxRecDepth 100000 in
set_option maxHeartbeats 2000000 in
theorem specMonitorAt_any (nv mv pv : Value) (ms : List Mo) (s : ByteArray) (w : World) (hN : SlV nv) (hM : MosAt w mv ms) (hP : SlV pv) (hl : ms.length ≤ 1048576) :
    Calls Tryz.prog 56 #[.agg #[nv, mv, pv], .string s] w fun e w' => e = .returned (.int .i64 (firstAt (monN s) ms)) ∧ Below w.heap.size w w' := by
  have hb1 : Below w.heap.size w (w.alloc (.cells #[nv, mv, pv] 33)) := (Below.refl _ _).alloc (Nat.le_refl _) _
  have HM := hide (hM.stays hb1)
  have HX := hide (Boxed.made w nv mv pv 33)
  have HB := hide hb1
  clear hb1
  obtain ⟨ao, an, ac, rfl⟩ := hN
  obtain ⟨mo, mc, rfl, _⟩ := hM
  obtain ⟨po, pn, pc, rfl⟩ := hP
  obtain ⟨n, en⟩ : ∃ n, ms.length = n := ⟨_, rfl⟩
  have EN := hide en
  rw [en] at HM HX HB hl ⊢
  clear en
  go_enter Tryz.func56, Tryz.ntmps56
  go_wp2
  generalize w.alloc (.cells #[.slice ao an ac, .slice mo n mc, .slice po pn pc] 33) = W1 at *
  go_loopw [5] (fun iv wr => SchR W1 (monN s) ms iv wr) (fun iv _ => n - (intOf iv).toNat)
  case atStart => exact ⟨0, by omega, rfl, Below.refl _ _, NoneTo.zero _ _⟩
  case round =>
    obtain ⟨i, hi, rfl, HB2, HN⟩ := hrel
    rw [EN.out] at hi
    obtain ⟨c0, c1, c2, _⟩ := HX.out.stays HB2.out
    have HBB := hide (HB.out.trans (HB2.out.mono HB.out.size))
    by_cases hlt : i < n
    · have hlt' : (i : Int) < (n : Int) := by omega
      have hi0 : (0 : Int) ≤ (i : Int) := by omega
      have hix : i < ms.length := by rw [EN.out]; exact hlt
      obtain ⟨ao', c', e1, hc1⟩ := HM.out.stays HB2.out
      injection e1 with e2 e3 e4
      subst e2
      obtain ⟨a, vv, qv, ev, rfl, hpb, hx⟩ := hc1 i hix
      obtain ⟨p, hpa⟩ : ∃ p, a.add (i * 4) = p := ⟨_, rfl⟩
      have d0 := hx.c0
      rw [hpa] at d0
      have HH := hide (HN.out.hit hix)
      have HS := hide (HN.out.step (i := i))
      obtain ⟨x, ex⟩ : ∃ x, ms[i] = x := ⟨_, rfl⟩
      simp only [ex] at d0 HH HS
      clear hx hc1 e3 e4 ex
      by_cases hxs : x.name = s
      · have HF := hide (HH.out (decide_eq_true hxs))
        subst hxs
        go_wp2
        go_ret
        exact ⟨by rw [HF.out]; rfl, HBB.out⟩
      · have hxs' : (x.name.toList == s.toList) = false := by rw [Bool.eq_false_iff]; exact fun h => hxs (str_beq.1 h)
        have HS2 := hide (HS.out (fun _ => decide_eq_false hxs))
        go_wp2
        go_roundw
        case rel => exact ⟨i + 1, by rw [EN.out]; omega, by go_num, HB2.out, HS2.out⟩
        case measure => simp [intOf]; omega
    · have hlt' : ¬ (i : Int) < (n : Int) := by omega
      have HF := hide (HN.out.none (by rw [EN.out]; omega))
      go_wp2
      go_ret
      exact ⟨by rw [HF.out]; rfl, HBB.out⟩

set_option maxHeartbeats 1000000 in
theorem monIs_any (m : Mo) (vv qv ev : Value) (p : Addr) (s : ByteArray) (w : World) (h1 : SlV vv) (h2 : SlV qv) (h3 : SlV ev) (hp : p.block < w.heap.size) (hc : w.cell? p = some (.string s)) :
    Calls Tryz.prog 94 #[.agg #[.string m.name, vv, qv, ev], .pointer (some p)] w fun e w' => e = .returned (.bool (monN s m)) ∧ Below w.heap.size w w' := by
  have hb1 : Below w.heap.size w (w.alloc (.cells #[.string m.name, vv, qv, ev] 76)) := (Below.refl _ _).alloc (Nat.le_refl _) _
  have HB := hide hb1
  have hc1 := (hb1.cell hp).trans hc
  have d0 : (w.alloc (.cells #[.string m.name, vv, qv, ev] 76)).cell? ⟨w.heap.size, 0, none⟩ = some (.string m.name) := by rw [World.cell?_alloc_new]; rfl
  clear hb1 hc
  obtain ⟨o1, n1, k1, rfl⟩ := h1
  obtain ⟨o2, n2, k2, rfl⟩ := h2
  obtain ⟨o3, n3, k3, rfl⟩ := h3
  obtain ⟨x, ex⟩ : ∃ x, m.name = x := ⟨_, rfl⟩
  have EQ : Hid ((x.toList == s.toList) = monN s m) := by
    show _ = _
    rw [monN, ex]
    by_cases h : x = s
    · rw [decide_eq_true h]; exact str_beq.2 h
    · rw [decide_eq_false h, Bool.eq_false_iff]; exact fun q => h (str_beq.1 q)
  rw [ex] at HB hc1 d0 ⊢
  clear ex
  go_enter Tryz.func94, Tryz.ntmps94
  go_wp2
  go_ret
  exact ⟨by rw [← EQ.out]; rfl, HB.out⟩

set_option maxRecDepth 100000 in
set_option maxHeartbeats 2000000 in
theorem indexMon_any (mv : Value) (ms : List Mo) (p : Addr) (s : ByteArray) (w : World) (hM : MosAt w mv ms) (hl : ms.length ≤ 1048576) (hp : p.block < w.heap.size) (hc : w.cell? p = some (.string s)) :
    Calls Tryz.prog 93 #[mv, .func (.func 94) #[] #[.pointer (some p)]] w fun e w' => e = .returned (.int .i64 (firstAt (monN s) ms)) ∧ Below w.heap.size w w' := by
  have HM := hide hM
  have HC := hide hc
  obtain ⟨mo, mc, rfl, _⟩ := hM
  obtain ⟨n, en⟩ : ∃ n, ms.length = n := ⟨_, rfl⟩
  have EN := hide en
  rw [en] at HM hl ⊢
  clear en hc
  go_enter Tryz.func93, Tryz.ntmps93
  go_wp2
  go_loopw [8] (fun iv wr => SchR w (monN s) ms iv wr) (fun iv _ => n - (intOf iv).toNat)
  case atStart => exact ⟨0, by omega, rfl, Below.refl _ _, NoneTo.zero _ _⟩
  case round =>
    obtain ⟨i, hi, rfl, HB2, HN⟩ := hrel
    rw [EN.out] at hi
    by_cases hlt : i < n
    · have hlt' : (i : Int) < (n : Int) := by omega
      have hi0 : (0 : Int) ≤ (i : Int) := by omega
      have hix : i < ms.length := by rw [EN.out]; exact hlt
      obtain ⟨ao', c', e1, hc1⟩ := HM.out.stays HB2.out
      injection e1 with e2 e3 e4
      subst e2
      obtain ⟨a, vv, qv, ev, rfl, hpb, hx⟩ := hc1 i hix
      obtain ⟨q, hpa⟩ : ∃ q, a.add (i * 4) = q := ⟨_, rfl⟩
      rw [hpa] at hx
      have CM := hide (monIs_any ms[i] vv qv ev p s wr hx.vars.sl hx.queues.sl (by obtain ⟨_, _, e, _⟩ := hx.ents; exact ⟨_, _, _, e⟩) (Nat.lt_of_lt_of_le hp HB2.out.size) ((HB2.out.cell hp).trans HC.out))
      obtain ⟨d0, d1, d2, d3, ⟨_, _, rfl, _⟩, ⟨_, _, rfl, _⟩, ⟨_, _, rfl, _⟩⟩ := hx
      have HH := hide (HN.out.hit hix)
      have HS := hide (HN.out.step (i := i))
      obtain ⟨x, ex⟩ : ∃ x, ms[i] = x := ⟨_, rfl⟩
      simp only [ex] at d0 d1 d2 d3 HH HS CM
      clear hc1 e3 e4 ex
      cases hq : monN s x with
      | true =>
        have HF := hide (HH.out hq)
        rw [hq] at CM
        clear hq HS HH
        go_wp2_with fail
        refine (unhide CM).mono ?_
        rintro e w1 ⟨rfl, hb1⟩
        have HB3 := hide (HB2.out.trans (hb1.mono HB2.out.size))
        clear hb1 d0 d1 d2 d3
        go_wp2
        go_ret
        exact ⟨by rw [HF.out]; rfl, HB3.out⟩
      | false =>
        have HS2 := hide (HS.out (fun _ => hq))
        rw [hq] at CM
        clear hq HS HH
        go_wp2_with fail
        refine (unhide CM).mono ?_
        rintro e w1 ⟨rfl, hb1⟩
        have HB3 := hide (HB2.out.trans (hb1.mono HB2.out.size))
        clear hb1 d0 d1 d2 d3
        go_wp2
        go_roundw
        case rel => exact ⟨i + 1, by rw [EN.out]; omega, by go_num, HB3.out, HS2.out⟩
        case measure => simp [intOf]; omega
    · have hlt' : ¬ (i : Int) < (n : Int) := by omega
      have HF := hide (HN.out.none (by rw [EN.out]; omega))
      go_wp2
      go_ret
      exact ⟨by rw [HF.out]; rfl, HB2.out⟩

set_option maxHeartbeats 1000000 in
theorem implMonitorAt_any (nv mv pv : Value) (ms : List Mo) (s : ByteArray) (w : World) (hN : SlV nv) (hM : MosAt w mv ms) (hP : SlV pv) (hl : ms.length ≤ 1048576) :
    Calls Tryz.prog 70 #[.agg #[nv, mv, pv], .string s] w fun e w' => e = .returned (.int .i64 (firstAt (monN s) ms)) ∧ Below w.heap.size w w' := by
  have hb1 : Below w.heap.size w (w.alloc (.cells #[nv, mv, pv] 33)) := (Below.refl _ _).alloc (Nat.le_refl _) _
  have hb2 : Below w.heap.size w ((w.alloc (.cells #[nv, mv, pv] 33)).alloc (.cells #[.string s] 9)) := hb1.alloc hb1.size _
  have hz : (w.alloc (.cells #[nv, mv, pv] 33)).heap.size = w.heap.size + 1 := by simp
  have hz2 : ((w.alloc (.cells #[nv, mv, pv] 33)).alloc (.cells #[.string s] 9)).heap.size = w.heap.size + 2 := by simp
  have HM := hide (hM.stays hb2)
  have hs : ((w.alloc (.cells #[nv, mv, pv] 33)).alloc (.cells #[.string s] 9)).cell? ⟨w.heap.size + 1, 0, none⟩ = some (.string s) := by rw [← hz, World.cell?_alloc_new]; rfl
  have HX := ((Boxed.made w nv mv pv 33).stays ((Below.refl _ (w.alloc (.cells #[nv, mv, pv] 33))).alloc (Nat.le_refl _) (.cells #[.string s] 9))).c1
  have HB := hide hb2
  have CI := hide (indexMon_any mv ms ⟨w.heap.size + 1, 0, none⟩ s _ HM.out hl (by rw [hz2]; show w.heap.size + 1 < w.heap.size + 2; omega) hs)
  clear hb1 hb2 hz hs hz2
  obtain ⟨ao, an, ac, rfl⟩ := hN
  obtain ⟨mo, mc, rfl, _⟩ := hM
  obtain ⟨po, pn, pc, rfl⟩ := hP
  go_enter Tryz.func70, Tryz.ntmps70
  go_wp2_with fail
  refine (unhide CI).mono ?_
  rintro e w1 ⟨rfl, hb1⟩
  have HB3 := hide (HB.out.trans (hb1.mono HB.out.size))
  clear hb1
  go_wp2
  go_ret
  exact ⟨rfl, HB3.out⟩
end Go.Proofs.YtpdpmnkonkpheaaGreat
