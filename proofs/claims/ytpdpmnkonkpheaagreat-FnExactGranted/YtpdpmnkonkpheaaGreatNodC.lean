/-
  Walks: what is wrong with a node at its home, by the specification.
-/
import Derived.Test.YtpdpmnkonkpheaaGreatScoV
import Derived.Test.YtpdpmnkonkpheaaGreatScoI
namespace Go.Proofs.YtpdpmnkonkpheaaGreat
open Go.RowKit

/-- What is wrong with a node in a process, in an entry. -/
def codeP (ms : List Mo) (us vs : List ByteArray) (x : Nd) : Int :=
  if x.kind = 14 then (if x.into.toList.isEmpty = false ∧ memB vs x.into = false then 2 else if memB us x.name = false ∨ entAt ms (firstAt (monN x.name) ms) x.more < 0 then 4 else 0)
  else if x.kind = 16 ∨ x.kind = 2 ∨ x.kind = 11 then (if memB vs x.name = true then 0 else 2)
  else if x.kind = 17 ∨ x.kind = 18 then 5 else 0
def codeM (qs vs : List ByteArray) (x : Nd) : Int :=
  if x.kind = 14 ∨ x.kind = 16 then 5
  else if x.kind = 17 ∨ x.kind = 18 then (if memB qs x.name = true then 0 else 3)
  else if x.kind = 2 ∨ x.kind = 11 then (if memB vs x.name = true then 0 else 2)
  else 0

/-- While a node is looked at: the boxes of the program, of its home, of the node. -/
structure NoZ (w : World) (nv mv pv : Value) (ms : List Mo) (ps : List Pr) (p m e : Int) (x : Nd) (kv : Value) (z : World) : Prop where
  bp : Boxed w.heap.size z nv mv pv
  bh : Box z (w.heap.size + 1) #[.int .i64 p, .int .i64 m, .int .i64 e] 71
  bn : Box z (w.heap.size + 2) #[.int .i64 x.kind, .int .i64 x.num, .string x.name, .string x.more, .string x.into, kv] 73
  mos : MosAt z mv ms
  prs : PrsAt z pv ps
  bel : Below w.heap.size w z
theorem NoZ.stays {w : World} {nv mv pv : Value} {ms : List Mo} {ps : List Pr} {p m e : Int} {x : Nd} {kv : Value} {z z' : World} (h : NoZ w nv mv pv ms ps p m e x kv z) (hb : Below z.heap.size z z') : NoZ w nv mv pv ms ps p m e x kv z' :=
  ⟨h.bp.stays hb, h.bh.stays hb, h.bn.stays hb, h.mos.stays hb, h.prs.stays hb, h.bel.trans (hb.mono h.bel.size)⟩
theorem NoZ.start {w : World} {nv mv pv : Value} {ms : List Mo} {ps : List Pr} (hM : MosAt w mv ms) (hP : PrsAt w pv ps) (p m e : Int) (x : Nd) (kv : Value) :
    NoZ w nv mv pv ms ps p m e x kv (((w.alloc (.cells #[nv, mv, pv] 33)).alloc (.cells #[.int .i64 p, .int .i64 m, .int .i64 e] 71)).alloc (.cells #[.int .i64 x.kind, .int .i64 x.num, .string x.name, .string x.more, .string x.into, kv] 73)) := by
  have hb1 : Below w.heap.size w (w.alloc (.cells #[nv, mv, pv] 33)) := (Below.refl _ _).alloc (Nat.le_refl _) _
  have hb2 := hb1.alloc hb1.size (.cells #[.int .i64 p, .int .i64 m, .int .i64 e] 71)
  have hb3 := hb2.alloc hb2.size (.cells #[.int .i64 x.kind, .int .i64 x.num, .string x.name, .string x.more, .string x.into, kv] 73)
  have k2 : ∀ (v : World) o, Below v.heap.size v (v.alloc o) := fun v o => (Below.refl _ _).alloc (Nat.le_refl _) _
  refine ⟨((Boxed.made w nv mv pv _).stays (k2 _ _)).stays (k2 _ _), ?_, ?_, hM.stays hb3, hP.stays hb3, hb3⟩
  · exact (Box.madeAt (by simp) _ _).stays (k2 _ _)
  · exact Box.madeAt (by simp) _ _

set_option maxRecDepth 100000 in
set_option maxHeartbeats 4000000 in
theorem l08Node_pro (nv mv pv : Value) (ns : List Nd) (ms : List Mo) (ps : List Pr) (i k : Nat) (w : World) (hN : NdsAt w nv ns) (hM : MosAt w mv ms) (hP : PrsAt w pv ps) (hi : i < ps.length) (hk : k < ns.length) (hml : ms.length ≤ 1048576) (hel : ∀ m ∈ ms, m.ents.length ≤ 1048576) (hul : ps[i].uses.length ≤ 1048576) (hvl : ps[i].vars.length ≤ 1048576) :
    Calls Tryz.prog 30 #[.agg #[nv, mv, pv], .int .i64 (k : Int), .agg #[.int .i64 (i : Int), .int .i64 (-1), .int .i64 (-1)]] w fun e w' => e = .returned (.int .i64 (codeP ms ps[i].uses ps[i].vars ns[k])) ∧ Below w.heap.size w w' := by
  obtain ⟨a, c, p, kv, rfl, hpa, hpb, hcell⟩ := hN.node k hk
  have Z := hide (NoZ.start (nv := .slice (some a) ns.length c) hM hP (i : Int) (-1) (-1) ns[k] kv)
  have hb1 : Below w.heap.size w (w.alloc (.cells #[.slice (some a) ns.length c, mv, pv] 33)) := (Below.refl _ _).alloc (Nat.le_refl _) _
  have hb2 : Below w.heap.size w ((w.alloc (.cells #[.slice (some a) ns.length c, mv, pv] 33)).alloc (.cells #[.int .i64 (i : Int), .int .i64 (-1), .int .i64 (-1)] 71)) := hb1.alloc hb1.size _
  obtain ⟨d0, d1, d2, d3, d4, d5, _⟩ := hcell.stays hb2 hpb
  have q0 := ((Boxed.made w (.slice (some a) ns.length c) mv pv 33).stays ((Below.refl _ (w.alloc (.cells #[.slice (some a) ns.length c, mv, pv] 33))).alloc (Nat.le_refl _) (.cells #[.int .i64 (i : Int), .int .i64 (-1), .int .i64 (-1)] 71))).c0
  obtain ⟨ko, kc, rfl, _⟩ := hcell.kids
  have CV := fun z h => hide (l08Vars_pro (.slice (some a) ns.length c) mv pv ps i (-1) (-1) z ⟨_, _, _, rfl⟩ (by obtain ⟨a, c, e, _⟩ := hM; exact ⟨_, _, _, e⟩) h hi)
  have CI := fun v xs s z h hl => hide (l08In_any v xs s z h hl)
  have CM := fun s z h => hide (specMonitorAt_any (.slice (some a) ns.length c) mv pv ms s z ⟨_, _, _, rfl⟩ h hP.sl hml)
  have CE := fun m s z h => hide (specEntryAt_any (.slice (some a) ns.length c) mv pv ms m s z ⟨_, _, _, rfl⟩ h hP.sl hml hel)
  obtain ⟨mo, mc, rfl, _⟩ := hM
  obtain ⟨po, pc, rfl, hpc⟩ := hP
  obtain ⟨pa, uv, vu, rfl, hpb2, hx⟩ := hpc i hi
  obtain ⟨r, hra⟩ : ∃ r, pa.add (i * 4) = r := ⟨_, rfl⟩
  rw [← block_add pa (i * 4), hra] at hpb2
  rw [hra] at hx
  obtain ⟨uo, uc, rfl, _⟩ := hx.uses
  have DU : Hid (∀ z, Below w.heap.size w z → z.cell? { block := r.block, off := r.off + 1 } = some (.slice uo ps[i].uses.length uc)) := fun z hz => (hz.cell (p := { block := r.block, off := r.off + 1 }) hpb2).trans hx.c1
  have HU : Hid (∀ z, Below w.heap.size w z → StrsAt z (.slice uo ps[i].uses.length uc) ps[i].uses) := fun z hz => hx.uses.stays hz
  clear hpc hpb2 hx
  have hi0 : (0 : Int) ≤ (i : Int) := by omega
  have hi0' : ¬ (i : Int) < 0 := by omega
  have hi1 : (i : Int) < (ps.length : Int) := by omega
  have hk0 : (0 : Int) ≤ (k : Int) := by omega
  have hk1 : (k : Int) < (ns.length : Int) := by omega
  obtain ⟨pr, epr⟩ : ∃ pr, ps[i] = pr := ⟨_, rfl⟩
  have EPR := hide epr
  rw [epr] at CV hul hvl DU HU ⊢
  obtain ⟨x, ex⟩ : ∃ x, ns[k] = x := ⟨_, rfl⟩
  rw [ex] at Z d0 d1 d2 d3 d4 d5 ⊢
  obtain ⟨kd, nu, nm, mr, it, ks⟩ := x
  dsimp only at Z d0 d1 d2 d3 d4 d5
  clear epr ex hb1 hb2 hcell hN hel
  (
  obtain ⟨c0, c1, c2, _⟩ := Z.out.bp;
  have h0 := Lib.cell_of_heap Z.out.bh 0; have h1 := Lib.cell_of_heap Z.out.bh 1; have h2 := Lib.cell_of_heap Z.out.bh 2;
  have n0 := Lib.cell_of_heap Z.out.bn 0; have n2 := Lib.cell_of_heap Z.out.bn 2; have n3 := Lib.cell_of_heap Z.out.bn 3; have n4 := Lib.cell_of_heap Z.out.bn 4;
  simp at h0 h1 h2 n0 n2 n3 n4)
  by_cases e1 : kd = 14
  case pos =>
    subst e1
    have HE : Hid (codeP ms pr.uses pr.vars ⟨14, nu, nm, mr, it, ks⟩ = (if it.toList.isEmpty = false ∧ memB pr.vars it = false then 2 else if memB pr.uses nm = false ∨ entAt ms (firstAt (monN nm) ms) mr < 0 then 4 else 0)) := rfl
    obtain ⟨R, eR⟩ : ∃ R, codeP ms pr.uses pr.vars ⟨14, nu, nm, mr, it, ks⟩ = R := ⟨_, rfl⟩
    rw [eR]
    have ER := hide eR
    clear eR
    have CM1 := fun z h => CM nm z h
    go_enter Tryz.func30, Tryz.ntmps30
    go_wp2_with fail
    refine (unhide (CV _ Z.out.prs)).mono ?_
    rintro e w5 ⟨vv, rfl, hsv, hb5⟩
    have Z5 := hide (Z.out.stays hb5)
    have SV := hide hsv
    clear hb5 hsv c0 c1 c2 h0 h1 h2 n0 n2 n3 n4 q0 d0 d1 d2 d3 d4 d5
    obtain ⟨c0, c1, c2, _⟩ := Z5.out.bp
    have h0 := Lib.cell_of_heap Z5.out.bh 0
    have n0 := Lib.cell_of_heap Z5.out.bn 0
    have n2 := Lib.cell_of_heap Z5.out.bn 2
    have n3 := Lib.cell_of_heap Z5.out.bn 3
    have n4 := Lib.cell_of_heap Z5.out.bn 4
    simp at h0 n0 n2 n3 n4
    have CN := CI vv pr.vars it w5 SV.out hvl
    cases h3 : it.toList.isEmpty with
    | true =>
      have h3' : it.toList = [] := by simpa using h3
      have HQ : Hid (¬ (it.toList.isEmpty = false ∧ memB pr.vars it = false)) := fun h => by rw [h3] at h; cases h.1
      clear CN
      go_wp2_with fail
      have CW := fun z h => CI (.slice uo pr.uses.length uc) pr.uses nm z (HU.out z h) hul
      have d1 := DU.out _ Z5.out.bel
      cases hu : memB pr.uses nm with
      | false =>
        rw [hu] at CW
        have eR2 : R = 4 := by rw [← ER.out, HE.out, if_neg HQ.out, if_pos (Or.inl hu)]
        subst eR2
        clear hu
        have CW2 := fun n => hide (Calls.quiet_of_same (w := w5) (n := n) (unhide (CW (w5.drewN n) (below_drewN Z5.out.bel _))))
        clear CW
        go_quiet ((go_at_call 33; with_reducible exact unhide (CW2 _)))
        all_goals go_wp2
        all_goals go_ret
        all_goals exact ⟨rfl, below_drewN Z5.out.bel _⟩
      | true =>
        rw [hu] at CW
        have KC : Hid (∀ z, NoZ w (.slice (some a) ns.length c) (.slice mo ms.length mc) (.slice (some pa) ps.length pc) ms ps (i : Int) (-1) (-1) ⟨14, nu, nm, mr, it, ks⟩ (.slice ko ks.length kc) z → (z.cell? { block := w.heap.size, off := 0 } = some (.slice (some a) ns.length c) ∧ z.cell? { block := w.heap.size, off := 1 } = some (.slice mo ms.length mc) ∧ z.cell? { block := w.heap.size, off := 2 } = some (.slice (some pa) ps.length pc) ∧ z.cell? { block := w.heap.size + 1, off := 0 } = some (.int .i64 (i : Int)) ∧ z.cell? { block := w.heap.size + 2, off := 0 } = some (.int .i64 14) ∧ z.cell? { block := w.heap.size + 2, off := 2 } = some (.string nm) ∧ z.cell? { block := w.heap.size + 2, off := 3 } = some (.string mr) ∧ z.cell? { block := r.block, off := r.off + 1 } = some (.slice uo pr.uses.length uc) ∧ Hid (NoZ w (.slice (some a) ns.length c) (.slice mo ms.length mc) (.slice (some pa) ps.length pc) ms ps (i : Int) (-1) (-1) ⟨14, nu, nm, mr, it, ks⟩ (.slice ko ks.length kc) z))) := fun z hz => by
          obtain ⟨c0, c1, c2, _⟩ := hz.bp
          have h0 := Lib.cell_of_heap hz.bh 0
          have n0 := Lib.cell_of_heap hz.bn 0
          have n2 := Lib.cell_of_heap hz.bn 2
          have n3 := Lib.cell_of_heap hz.bn 3
          simp at h0 n0 n2 n3
          exact ⟨c0, c1, c2, h0, n0, n2, n3, DU.out z hz.bel, hz⟩
        have KV : Hid (∀ z, (z.cell? { block := w.heap.size, off := 0 } = some (.slice (some a) ns.length c) ∧ z.cell? { block := w.heap.size, off := 1 } = some (.slice mo ms.length mc) ∧ z.cell? { block := w.heap.size, off := 2 } = some (.slice (some pa) ps.length pc) ∧ z.cell? { block := w.heap.size + 1, off := 0 } = some (.int .i64 (i : Int)) ∧ z.cell? { block := w.heap.size + 2, off := 0 } = some (.int .i64 14) ∧ z.cell? { block := w.heap.size + 2, off := 2 } = some (.string nm) ∧ z.cell? { block := w.heap.size + 2, off := 3 } = some (.string mr) ∧ z.cell? { block := r.block, off := r.off + 1 } = some (.slice uo pr.uses.length uc) ∧ Hid (NoZ w (.slice (some a) ns.length c) (.slice mo ms.length mc) (.slice (some pa) ps.length pc) ms ps (i : Int) (-1) (-1) ⟨14, nu, nm, mr, it, ks⟩ (.slice ko ks.length kc) z)) → NoZ w (.slice (some a) ns.length c) (.slice mo ms.length mc) (.slice (some pa) ps.length pc) ms ps (i : Int) (-1) (-1) ⟨14, nu, nm, mr, it, ks⟩ (.slice ko ks.length kc) z) := fun z hz => hz.2.2.2.2.2.2.2.2.out
        have KP : Hid (∀ z z', (z.cell? { block := w.heap.size, off := 0 } = some (.slice (some a) ns.length c) ∧ z.cell? { block := w.heap.size, off := 1 } = some (.slice mo ms.length mc) ∧ z.cell? { block := w.heap.size, off := 2 } = some (.slice (some pa) ps.length pc) ∧ z.cell? { block := w.heap.size + 1, off := 0 } = some (.int .i64 (i : Int)) ∧ z.cell? { block := w.heap.size + 2, off := 0 } = some (.int .i64 14) ∧ z.cell? { block := w.heap.size + 2, off := 2 } = some (.string nm) ∧ z.cell? { block := w.heap.size + 2, off := 3 } = some (.string mr) ∧ z.cell? { block := r.block, off := r.off + 1 } = some (.slice uo pr.uses.length uc) ∧ Hid (NoZ w (.slice (some a) ns.length c) (.slice mo ms.length mc) (.slice (some pa) ps.length pc) ms ps (i : Int) (-1) (-1) ⟨14, nu, nm, mr, it, ks⟩ (.slice ko ks.length kc) z)) → Below z.heap.size z z' → (z'.cell? { block := w.heap.size, off := 0 } = some (.slice (some a) ns.length c) ∧ z'.cell? { block := w.heap.size, off := 1 } = some (.slice mo ms.length mc) ∧ z'.cell? { block := w.heap.size, off := 2 } = some (.slice (some pa) ps.length pc) ∧ z'.cell? { block := w.heap.size + 1, off := 0 } = some (.int .i64 (i : Int)) ∧ z'.cell? { block := w.heap.size + 2, off := 0 } = some (.int .i64 14) ∧ z'.cell? { block := w.heap.size + 2, off := 2 } = some (.string nm) ∧ z'.cell? { block := w.heap.size + 2, off := 3 } = some (.string mr) ∧ z'.cell? { block := r.block, off := r.off + 1 } = some (.slice uo pr.uses.length uc) ∧ Hid (NoZ w (.slice (some a) ns.length c) (.slice mo ms.length mc) (.slice (some pa) ps.length pc) ms ps (i : Int) (-1) (-1) ⟨14, nu, nm, mr, it, ks⟩ (.slice ko ks.length kc) z'))) := fun z z' hz hb => KC.out _ ((KV.out _ hz).stays hb)
        have K0 := hide (KC.out _ (Z5.out.stays (Below.refl _ _).drew))
        have HU1 : Hid (¬ memB pr.uses nm = false) := by show ¬ _; rw [hu]; decide
        clear hu c0 c1 c2 h0 n0 n2 n3 n4 d1
        obtain ⟨mi, emi⟩ : ∃ mi, firstAt (monN nm) ms = mi := ⟨_, rfl⟩
        have EMI := hide emi
        rw [emi] at CM1
        obtain ⟨ei, eei⟩ : ∃ ei, entAt ms mi mr = ei := ⟨_, rfl⟩
        have EEI := hide eei
        have CE1 := fun z h => CE mi mr z h
        rw [eei] at CE1
        clear emi eei CE
        by_cases hei : ei < 0
        · have eR2 : R = 4 := by rw [← ER.out, HE.out, if_neg HQ.out, if_pos (Or.inr (by rw [EMI.out, EEI.out]; exact hei))]
          subst eR2
          go_region_held3 (fun z => z.cell? { block := w.heap.size, off := 0 } = some (.slice (some a) ns.length c) ∧ z.cell? { block := w.heap.size, off := 1 } = some (.slice mo ms.length mc) ∧ z.cell? { block := w.heap.size, off := 2 } = some (.slice (some pa) ps.length pc) ∧ z.cell? { block := w.heap.size + 1, off := 0 } = some (.int .i64 (i : Int)) ∧ z.cell? { block := w.heap.size + 2, off := 0 } = some (.int .i64 14) ∧ z.cell? { block := w.heap.size + 2, off := 2 } = some (.string nm) ∧ z.cell? { block := w.heap.size + 2, off := 3 } = some (.string mr) ∧ z.cell? { block := r.block, off := r.off + 1 } = some (.slice uo pr.uses.length uc) ∧ Hid (NoZ w (.slice (some a) ns.length c) (.slice mo ms.length mc) (.slice (some pa) ps.length pc) ms ps (i : Int) (-1) (-1) ⟨14, nu, nm, mr, it, ks⟩ (.slice ko ks.length kc) z)) (first | exact K0.out | exact KP.out _ _ (by assumption) hb7) (first
            | (go_at_call 33; refine (unhide (CW _ (KV.out _ (by assumption)).bel)).mono ?_; rintro e w7 ⟨rfl, rfl⟩)
            | (go_at_call 56; refine (unhide (CM1 _ (KV.out _ (by assumption)).mos)).mono ?_; rintro e w7 ⟨rfl, hb7⟩)
            | (go_at_call 59; refine (unhide (CE1 _ (KV.out _ (by assumption)).mos)).mono ?_; rintro e w7 ⟨rfl, hb7⟩))
          all_goals go_wp2
          all_goals go_ret
          all_goals exact ⟨rfl, (KV.out _ (by assumption)).bel⟩
        · have eR2 : R = 0 := by rw [← ER.out, HE.out, if_neg HQ.out, if_neg (fun h => h.elim HU1.out (by rw [EMI.out, EEI.out]; exact hei))]
          subst eR2
          go_region_held3 (fun z => z.cell? { block := w.heap.size, off := 0 } = some (.slice (some a) ns.length c) ∧ z.cell? { block := w.heap.size, off := 1 } = some (.slice mo ms.length mc) ∧ z.cell? { block := w.heap.size, off := 2 } = some (.slice (some pa) ps.length pc) ∧ z.cell? { block := w.heap.size + 1, off := 0 } = some (.int .i64 (i : Int)) ∧ z.cell? { block := w.heap.size + 2, off := 0 } = some (.int .i64 14) ∧ z.cell? { block := w.heap.size + 2, off := 2 } = some (.string nm) ∧ z.cell? { block := w.heap.size + 2, off := 3 } = some (.string mr) ∧ z.cell? { block := r.block, off := r.off + 1 } = some (.slice uo pr.uses.length uc) ∧ Hid (NoZ w (.slice (some a) ns.length c) (.slice mo ms.length mc) (.slice (some pa) ps.length pc) ms ps (i : Int) (-1) (-1) ⟨14, nu, nm, mr, it, ks⟩ (.slice ko ks.length kc) z)) (first | exact K0.out | exact KP.out _ _ (by assumption) hb7) (first
            | (go_at_call 33; refine (unhide (CW _ (KV.out _ (by assumption)).bel)).mono ?_; rintro e w7 ⟨rfl, rfl⟩)
            | (go_at_call 56; refine (unhide (CM1 _ (KV.out _ (by assumption)).mos)).mono ?_; rintro e w7 ⟨rfl, hb7⟩)
            | (go_at_call 59; refine (unhide (CE1 _ (KV.out _ (by assumption)).mos)).mono ?_; rintro e w7 ⟨rfl, hb7⟩))
          all_goals go_wp2
          all_goals go_ret
          all_goals exact ⟨rfl, (KV.out _ (by assumption)).bel⟩
    | false =>
      have h3' : ¬ it.toList = [] := by simpa using h3
      cases hq : memB pr.vars it with
      | false =>
        rw [hq] at CN
        have eR2 : R = 2 := by rw [← ER.out, HE.out, if_pos ⟨h3, hq⟩]
        subst eR2
        clear hq
        go_wp2_with (go_at_call 33; refine (unhide CN).mono ?_; rintro e w6 ⟨rfl, rfl⟩)
        go_ret
        exact ⟨rfl, Z5.out.bel⟩
      | true =>
        rw [hq] at CN
        have HQ : Hid (¬ (it.toList.isEmpty = false ∧ memB pr.vars it = false)) := fun h => by rw [hq] at h; cases h.2
        clear hq
        go_wp2_with (go_at_call 33; refine (unhide CN).mono ?_; rintro e w6 ⟨rfl, rfl⟩)
        have CW := fun z h => CI (.slice uo pr.uses.length uc) pr.uses nm z (HU.out z h) hul
        have d1 := DU.out _ Z5.out.bel
        cases hu : memB pr.uses nm with
        | false =>
          rw [hu] at CW
          have eR2 : R = 4 := by rw [← ER.out, HE.out, if_neg HQ.out, if_pos (Or.inl hu)]
          subst eR2
          clear hu
          have CW2 := fun n => hide (Calls.quiet_of_same (w := w6) (n := n) (unhide (CW (w6.drewN n) (below_drewN Z5.out.bel _))))
          clear CW
          go_quiet ((go_at_call 33; with_reducible exact unhide (CW2 _)))
          all_goals go_wp2
          all_goals go_ret
          all_goals exact ⟨rfl, below_drewN Z5.out.bel _⟩
        | true =>
          rw [hu] at CW
          have KC : Hid (∀ z, NoZ w (.slice (some a) ns.length c) (.slice mo ms.length mc) (.slice (some pa) ps.length pc) ms ps (i : Int) (-1) (-1) ⟨14, nu, nm, mr, it, ks⟩ (.slice ko ks.length kc) z → (z.cell? { block := w.heap.size, off := 0 } = some (.slice (some a) ns.length c) ∧ z.cell? { block := w.heap.size, off := 1 } = some (.slice mo ms.length mc) ∧ z.cell? { block := w.heap.size, off := 2 } = some (.slice (some pa) ps.length pc) ∧ z.cell? { block := w.heap.size + 1, off := 0 } = some (.int .i64 (i : Int)) ∧ z.cell? { block := w.heap.size + 2, off := 0 } = some (.int .i64 14) ∧ z.cell? { block := w.heap.size + 2, off := 2 } = some (.string nm) ∧ z.cell? { block := w.heap.size + 2, off := 3 } = some (.string mr) ∧ z.cell? { block := r.block, off := r.off + 1 } = some (.slice uo pr.uses.length uc) ∧ Hid (NoZ w (.slice (some a) ns.length c) (.slice mo ms.length mc) (.slice (some pa) ps.length pc) ms ps (i : Int) (-1) (-1) ⟨14, nu, nm, mr, it, ks⟩ (.slice ko ks.length kc) z))) := fun z hz => by
            obtain ⟨c0, c1, c2, _⟩ := hz.bp
            have h0 := Lib.cell_of_heap hz.bh 0
            have n0 := Lib.cell_of_heap hz.bn 0
            have n2 := Lib.cell_of_heap hz.bn 2
            have n3 := Lib.cell_of_heap hz.bn 3
            simp at h0 n0 n2 n3
            exact ⟨c0, c1, c2, h0, n0, n2, n3, DU.out z hz.bel, hz⟩
          have KV : Hid (∀ z, (z.cell? { block := w.heap.size, off := 0 } = some (.slice (some a) ns.length c) ∧ z.cell? { block := w.heap.size, off := 1 } = some (.slice mo ms.length mc) ∧ z.cell? { block := w.heap.size, off := 2 } = some (.slice (some pa) ps.length pc) ∧ z.cell? { block := w.heap.size + 1, off := 0 } = some (.int .i64 (i : Int)) ∧ z.cell? { block := w.heap.size + 2, off := 0 } = some (.int .i64 14) ∧ z.cell? { block := w.heap.size + 2, off := 2 } = some (.string nm) ∧ z.cell? { block := w.heap.size + 2, off := 3 } = some (.string mr) ∧ z.cell? { block := r.block, off := r.off + 1 } = some (.slice uo pr.uses.length uc) ∧ Hid (NoZ w (.slice (some a) ns.length c) (.slice mo ms.length mc) (.slice (some pa) ps.length pc) ms ps (i : Int) (-1) (-1) ⟨14, nu, nm, mr, it, ks⟩ (.slice ko ks.length kc) z)) → NoZ w (.slice (some a) ns.length c) (.slice mo ms.length mc) (.slice (some pa) ps.length pc) ms ps (i : Int) (-1) (-1) ⟨14, nu, nm, mr, it, ks⟩ (.slice ko ks.length kc) z) := fun z hz => hz.2.2.2.2.2.2.2.2.out
          have KP : Hid (∀ z z', (z.cell? { block := w.heap.size, off := 0 } = some (.slice (some a) ns.length c) ∧ z.cell? { block := w.heap.size, off := 1 } = some (.slice mo ms.length mc) ∧ z.cell? { block := w.heap.size, off := 2 } = some (.slice (some pa) ps.length pc) ∧ z.cell? { block := w.heap.size + 1, off := 0 } = some (.int .i64 (i : Int)) ∧ z.cell? { block := w.heap.size + 2, off := 0 } = some (.int .i64 14) ∧ z.cell? { block := w.heap.size + 2, off := 2 } = some (.string nm) ∧ z.cell? { block := w.heap.size + 2, off := 3 } = some (.string mr) ∧ z.cell? { block := r.block, off := r.off + 1 } = some (.slice uo pr.uses.length uc) ∧ Hid (NoZ w (.slice (some a) ns.length c) (.slice mo ms.length mc) (.slice (some pa) ps.length pc) ms ps (i : Int) (-1) (-1) ⟨14, nu, nm, mr, it, ks⟩ (.slice ko ks.length kc) z)) → Below z.heap.size z z' → (z'.cell? { block := w.heap.size, off := 0 } = some (.slice (some a) ns.length c) ∧ z'.cell? { block := w.heap.size, off := 1 } = some (.slice mo ms.length mc) ∧ z'.cell? { block := w.heap.size, off := 2 } = some (.slice (some pa) ps.length pc) ∧ z'.cell? { block := w.heap.size + 1, off := 0 } = some (.int .i64 (i : Int)) ∧ z'.cell? { block := w.heap.size + 2, off := 0 } = some (.int .i64 14) ∧ z'.cell? { block := w.heap.size + 2, off := 2 } = some (.string nm) ∧ z'.cell? { block := w.heap.size + 2, off := 3 } = some (.string mr) ∧ z'.cell? { block := r.block, off := r.off + 1 } = some (.slice uo pr.uses.length uc) ∧ Hid (NoZ w (.slice (some a) ns.length c) (.slice mo ms.length mc) (.slice (some pa) ps.length pc) ms ps (i : Int) (-1) (-1) ⟨14, nu, nm, mr, it, ks⟩ (.slice ko ks.length kc) z'))) := fun z z' hz hb => KC.out _ ((KV.out _ hz).stays hb)
          have K0 := hide (KC.out _ (Z5.out.stays (Below.refl _ _).drew))
          have HU1 : Hid (¬ memB pr.uses nm = false) := by show ¬ _; rw [hu]; decide
          clear hu c0 c1 c2 h0 n0 n2 n3 n4 d1
          obtain ⟨mi, emi⟩ : ∃ mi, firstAt (monN nm) ms = mi := ⟨_, rfl⟩
          have EMI := hide emi
          rw [emi] at CM1
          obtain ⟨ei, eei⟩ : ∃ ei, entAt ms mi mr = ei := ⟨_, rfl⟩
          have EEI := hide eei
          have CE1 := fun z h => CE mi mr z h
          rw [eei] at CE1
          clear emi eei CE
          by_cases hei : ei < 0
          · have eR2 : R = 4 := by rw [← ER.out, HE.out, if_neg HQ.out, if_pos (Or.inr (by rw [EMI.out, EEI.out]; exact hei))]
            subst eR2
            go_region_held3 (fun z => z.cell? { block := w.heap.size, off := 0 } = some (.slice (some a) ns.length c) ∧ z.cell? { block := w.heap.size, off := 1 } = some (.slice mo ms.length mc) ∧ z.cell? { block := w.heap.size, off := 2 } = some (.slice (some pa) ps.length pc) ∧ z.cell? { block := w.heap.size + 1, off := 0 } = some (.int .i64 (i : Int)) ∧ z.cell? { block := w.heap.size + 2, off := 0 } = some (.int .i64 14) ∧ z.cell? { block := w.heap.size + 2, off := 2 } = some (.string nm) ∧ z.cell? { block := w.heap.size + 2, off := 3 } = some (.string mr) ∧ z.cell? { block := r.block, off := r.off + 1 } = some (.slice uo pr.uses.length uc) ∧ Hid (NoZ w (.slice (some a) ns.length c) (.slice mo ms.length mc) (.slice (some pa) ps.length pc) ms ps (i : Int) (-1) (-1) ⟨14, nu, nm, mr, it, ks⟩ (.slice ko ks.length kc) z)) (first | exact K0.out | exact KP.out _ _ (by assumption) hb7) (first
              | (go_at_call 33; refine (unhide (CW _ (KV.out _ (by assumption)).bel)).mono ?_; rintro e w7 ⟨rfl, rfl⟩)
              | (go_at_call 56; refine (unhide (CM1 _ (KV.out _ (by assumption)).mos)).mono ?_; rintro e w7 ⟨rfl, hb7⟩)
              | (go_at_call 59; refine (unhide (CE1 _ (KV.out _ (by assumption)).mos)).mono ?_; rintro e w7 ⟨rfl, hb7⟩))
            all_goals go_wp2
            all_goals go_ret
            all_goals exact ⟨rfl, (KV.out _ (by assumption)).bel⟩
          · have eR2 : R = 0 := by rw [← ER.out, HE.out, if_neg HQ.out, if_neg (fun h => h.elim HU1.out (by rw [EMI.out, EEI.out]; exact hei))]
            subst eR2
            go_region_held3 (fun z => z.cell? { block := w.heap.size, off := 0 } = some (.slice (some a) ns.length c) ∧ z.cell? { block := w.heap.size, off := 1 } = some (.slice mo ms.length mc) ∧ z.cell? { block := w.heap.size, off := 2 } = some (.slice (some pa) ps.length pc) ∧ z.cell? { block := w.heap.size + 1, off := 0 } = some (.int .i64 (i : Int)) ∧ z.cell? { block := w.heap.size + 2, off := 0 } = some (.int .i64 14) ∧ z.cell? { block := w.heap.size + 2, off := 2 } = some (.string nm) ∧ z.cell? { block := w.heap.size + 2, off := 3 } = some (.string mr) ∧ z.cell? { block := r.block, off := r.off + 1 } = some (.slice uo pr.uses.length uc) ∧ Hid (NoZ w (.slice (some a) ns.length c) (.slice mo ms.length mc) (.slice (some pa) ps.length pc) ms ps (i : Int) (-1) (-1) ⟨14, nu, nm, mr, it, ks⟩ (.slice ko ks.length kc) z)) (first | exact K0.out | exact KP.out _ _ (by assumption) hb7) (first
              | (go_at_call 33; refine (unhide (CW _ (KV.out _ (by assumption)).bel)).mono ?_; rintro e w7 ⟨rfl, rfl⟩)
              | (go_at_call 56; refine (unhide (CM1 _ (KV.out _ (by assumption)).mos)).mono ?_; rintro e w7 ⟨rfl, hb7⟩)
              | (go_at_call 59; refine (unhide (CE1 _ (KV.out _ (by assumption)).mos)).mono ?_; rintro e w7 ⟨rfl, hb7⟩))
            all_goals go_wp2
            all_goals go_ret
            all_goals exact ⟨rfl, (KV.out _ (by assumption)).bel⟩
  by_cases e2 : kd = 16
  case pos =>
    subst e2
    have HE : Hid (codeP ms pr.uses pr.vars ⟨16, nu, nm, mr, it, ks⟩ = if memB pr.vars nm = true then 0 else 2) := rfl
    obtain ⟨R, eR⟩ : ∃ R, codeP ms pr.uses pr.vars ⟨16, nu, nm, mr, it, ks⟩ = R := ⟨_, rfl⟩
    rw [eR]
    have ER := hide eR
    clear eR
    go_enter Tryz.func30, Tryz.ntmps30
    go_wp2_with fail
    refine (unhide (CV _ Z.out.prs)).mono ?_
    rintro e w5 ⟨vv, rfl, hsv, hb5⟩
    have Z5 := hide (Z.out.stays hb5)
    have SV := hide hsv
    clear hb5 hsv c0 c1 c2 h0 h1 h2 n0 n2 n3 n4 q0 d0 d1 d2 d3 d4 d5
    obtain ⟨c0, c1, c2, _⟩ := Z5.out.bp
    have h0 := Lib.cell_of_heap Z5.out.bh 0
    have n0 := Lib.cell_of_heap Z5.out.bn 0
    have n2 := Lib.cell_of_heap Z5.out.bn 2
    have n3 := Lib.cell_of_heap Z5.out.bn 3
    have n4 := Lib.cell_of_heap Z5.out.bn 4
    simp at h0 n0 n2 n3 n4
    have CN := CI vv pr.vars nm w5 SV.out hvl
    cases hq : memB pr.vars nm with
    | true =>
      rw [hq] at CN
      have eR2 : R = 0 := by rw [← ER.out, HE.out, hq]; rfl
      subst eR2
      clear hq
      go_wp2_with (go_at_call 33; refine (unhide CN).mono ?_; rintro e w6 ⟨rfl, rfl⟩)
      go_quiet (fail)
      all_goals go_wp2
      all_goals go_ret
      all_goals exact ⟨rfl, below_drewN Z5.out.bel _⟩
    | false =>
      rw [hq] at CN
      have eR2 : R = 2 := by rw [← ER.out, HE.out, hq]; rfl
      subst eR2
      clear hq
      go_wp2_with (go_at_call 33; refine (unhide CN).mono ?_; rintro e w6 ⟨rfl, rfl⟩)
      go_ret
      exact ⟨rfl, Z5.out.bel⟩
  by_cases e3 : kd = 17
  case pos =>
    subst e3
    have HE : Hid (codeP ms pr.uses pr.vars ⟨17, nu, nm, mr, it, ks⟩ = 5) := rfl
    rw [HE.out]
    go_enter Tryz.func30, Tryz.ntmps30
    go_wp2
    go_ret
    exact ⟨rfl, Z.out.bel⟩
  by_cases e4 : kd = 18
  case pos =>
    subst e4
    have HE : Hid (codeP ms pr.uses pr.vars ⟨18, nu, nm, mr, it, ks⟩ = 5) := rfl
    rw [HE.out]
    go_enter Tryz.func30, Tryz.ntmps30
    go_wp2
    go_ret
    exact ⟨rfl, Z.out.bel⟩
  by_cases e5 : kd = 2
  case pos =>
    subst e5
    have HE : Hid (codeP ms pr.uses pr.vars ⟨2, nu, nm, mr, it, ks⟩ = if memB pr.vars nm = true then 0 else 2) := rfl
    obtain ⟨R, eR⟩ : ∃ R, codeP ms pr.uses pr.vars ⟨2, nu, nm, mr, it, ks⟩ = R := ⟨_, rfl⟩
    rw [eR]
    have ER := hide eR
    clear eR
    go_enter Tryz.func30, Tryz.ntmps30
    go_wp2_with fail
    refine (unhide (CV _ Z.out.prs)).mono ?_
    rintro e w5 ⟨vv, rfl, hsv, hb5⟩
    have Z5 := hide (Z.out.stays hb5)
    have SV := hide hsv
    clear hb5 hsv c0 c1 c2 h0 h1 h2 n0 n2 n3 n4 q0 d0 d1 d2 d3 d4 d5
    obtain ⟨c0, c1, c2, _⟩ := Z5.out.bp
    have h0 := Lib.cell_of_heap Z5.out.bh 0
    have n0 := Lib.cell_of_heap Z5.out.bn 0
    have n2 := Lib.cell_of_heap Z5.out.bn 2
    have n3 := Lib.cell_of_heap Z5.out.bn 3
    have n4 := Lib.cell_of_heap Z5.out.bn 4
    simp at h0 n0 n2 n3 n4
    have CN := CI vv pr.vars nm w5 SV.out hvl
    cases hq : memB pr.vars nm with
    | true =>
      rw [hq] at CN
      have eR2 : R = 0 := by rw [← ER.out, HE.out, hq]; rfl
      subst eR2
      clear hq
      go_wp2_with (go_at_call 33; refine (unhide CN).mono ?_; rintro e w6 ⟨rfl, rfl⟩)
      go_quiet (fail)
      all_goals go_wp2
      all_goals go_ret
      all_goals exact ⟨rfl, below_drewN Z5.out.bel _⟩
    | false =>
      rw [hq] at CN
      have eR2 : R = 2 := by rw [← ER.out, HE.out, hq]; rfl
      subst eR2
      clear hq
      go_wp2_with (go_at_call 33; refine (unhide CN).mono ?_; rintro e w6 ⟨rfl, rfl⟩)
      go_ret
      exact ⟨rfl, Z5.out.bel⟩
  by_cases e6 : kd = 11
  case pos =>
    subst e6
    have HE : Hid (codeP ms pr.uses pr.vars ⟨11, nu, nm, mr, it, ks⟩ = if memB pr.vars nm = true then 0 else 2) := rfl
    obtain ⟨R, eR⟩ : ∃ R, codeP ms pr.uses pr.vars ⟨11, nu, nm, mr, it, ks⟩ = R := ⟨_, rfl⟩
    rw [eR]
    have ER := hide eR
    clear eR
    go_enter Tryz.func30, Tryz.ntmps30
    go_wp2_with fail
    refine (unhide (CV _ Z.out.prs)).mono ?_
    rintro e w5 ⟨vv, rfl, hsv, hb5⟩
    have Z5 := hide (Z.out.stays hb5)
    have SV := hide hsv
    clear hb5 hsv c0 c1 c2 h0 h1 h2 n0 n2 n3 n4 q0 d0 d1 d2 d3 d4 d5
    obtain ⟨c0, c1, c2, _⟩ := Z5.out.bp
    have h0 := Lib.cell_of_heap Z5.out.bh 0
    have n0 := Lib.cell_of_heap Z5.out.bn 0
    have n2 := Lib.cell_of_heap Z5.out.bn 2
    have n3 := Lib.cell_of_heap Z5.out.bn 3
    have n4 := Lib.cell_of_heap Z5.out.bn 4
    simp at h0 n0 n2 n3 n4
    have CN := CI vv pr.vars nm w5 SV.out hvl
    cases hq : memB pr.vars nm with
    | true =>
      rw [hq] at CN
      have eR2 : R = 0 := by rw [← ER.out, HE.out, hq]; rfl
      subst eR2
      clear hq
      go_wp2_with (go_at_call 33; refine (unhide CN).mono ?_; rintro e w6 ⟨rfl, rfl⟩)
      go_quiet (fail)
      all_goals go_wp2
      all_goals go_ret
      all_goals exact ⟨rfl, below_drewN Z5.out.bel _⟩
    | false =>
      rw [hq] at CN
      have eR2 : R = 2 := by rw [← ER.out, HE.out, hq]; rfl
      subst eR2
      clear hq
      go_wp2_with (go_at_call 33; refine (unhide CN).mono ?_; rintro e w6 ⟨rfl, rfl⟩)
      go_ret
      exact ⟨rfl, Z5.out.bel⟩
  have HE : Hid (codeP ms pr.uses pr.vars ⟨kd, nu, nm, mr, it, ks⟩ = 0) := by
    show _ = _
    unfold codeP
    rw [if_neg (by simpa using e1), if_neg (by simp; omega), if_neg (by simp; omega)]
  have b1 : (kd == 14) = false := by simpa using e1
  have b2 : (kd == 16) = false := by simpa using e2
  have b3 : (kd == 17) = false := by simpa using e3
  have b4 : (kd == 18) = false := by simpa using e4
  have b5 : (kd == 2) = false := by simpa using e5
  have b6 : (kd == 11) = false := by simpa using e6
  rw [HE.out]
  clear e1 e2 e3 e4 e5 e6 HE
  go_enter Tryz.func30, Tryz.ntmps30
  go_wp2_with fail
  refine (unhide (CV _ Z.out.prs)).mono ?_
  rintro e w5 ⟨vv, rfl, hsv, hb5⟩
  have Z5 := hide (Z.out.stays hb5)
  have SV := hide hsv
  clear hb5 hsv c0 c1 c2 h0 h1 h2 n0 n2 n3 n4 q0 d0 d1 d2 d3 d4 d5
  obtain ⟨c0, c1, c2, _⟩ := Z5.out.bp
  have h0 := Lib.cell_of_heap Z5.out.bh 0
  have n0 := Lib.cell_of_heap Z5.out.bn 0
  have n2 := Lib.cell_of_heap Z5.out.bn 2
  have n3 := Lib.cell_of_heap Z5.out.bn 3
  have n4 := Lib.cell_of_heap Z5.out.bn 4
  simp at h0 n0 n2 n3 n4
  go_wp2
  go_quiet (fail)
  all_goals go_wp2
  all_goals go_ret
  all_goals exact ⟨rfl, below_drewN Z5.out.bel _⟩
end Go.Proofs.YtpdpmnkonkpheaaGreat
