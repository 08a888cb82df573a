/-
  Walks: are all lists of names right, by the specification.
-/
import Derived.Test.YtpdpmnkonkpheaaGreatImpS
import Derived.Test.YtpdpmnkonkpheaaGreatScoV
import Derived.Test.YtpdpmnkonkpheaaGreatImvI
namespace Go.Proofs.YtpdpmnkonkpheaaGreat
open Go.RowKit

def NmR (base : Nat) (W1 : World) (n : Nat) (L : Nat → List ByteArray) (G : Nat → Prop) (v iv : Value) (wr : World) : Prop :=
  ∃ i : Nat, i ≤ n ∧ iv = .int .i64 i ∧ Hid (OwnS base v (L i) wr) ∧ Hid (Below W1.heap.size W1 wr) ∧ Hid (∀ j, j < i → G j)
def UsR (W : World) (m : Nat) (G : Nat → Prop) (iv : Value) (wr : World) : Prop :=
  ∃ i : Nat, i ≤ m ∧ iv = .int .i64 i ∧ Hid (Below W.heap.size W wr) ∧ Hid (∀ j, j < i → G j)
theorem ownS_stays {base : Nat} {v : Value} {l : List ByteArray} {w w' : World} (h : OwnS base v l w) (hb : Below w.heap.size w w') : OwnS base v l w' := by
  have hlt := h.lt
  obtain ⟨h1, h2⟩ := h
  refine ⟨h1, ?_⟩
  rcases h2 with h2 | ⟨g, cap, cur, rfl, hb1, hg, r⟩
  · exact .inl h2
  · exact .inr ⟨g, cap, cur, rfl, hb1, by rw [hb.block g (hlt g rfl).2]; exact hg, r⟩

set_option maxRecDepth 100000 in
set_option maxHeartbeats 4000000 in
theorem l08Names_any (nv mv pv : Value) (ms : List Mo) (ps : List Pr) (w : World) (hN : SlV nv) (hM : MosAt w mv ms) (hP : PrsAt w pv ps) (hml : ms.length ≤ 1048576) (hpl : ps.length ≤ 1048576) (hmi : ∀ m ∈ ms, MoIn m) (hpi : ∀ p ∈ ps, PrIn p) (hT : ∀ m ∈ ms, 1 + m.vars.length + m.queues.length ≤ 1048576) :
    Calls Tryz.prog 28 #[.agg #[nv, mv, pv]] w fun e w' => e = .returned (.bool (namB ms ps)) ∧ Below w.heap.size w w' := by
  have hb1 : Below w.heap.size w (w.alloc (.cells #[nv, mv, pv] 33)) := (Below.refl _ _).alloc (Nat.le_refl _) _
  have HM := hide (hM.stays hb1)
  have HP := hide (hP.stays hb1)
  have HX := hide (Boxed.made w nv mv pv 33)
  have HB := hide hb1
  have HS : Hid ((w.alloc (.cells #[nv, mv, pv] 33)).heap.size = w.heap.size + 1) := by show _ = _; simp
  have HMI := hide hmi
  have HPI := hide hpi
  have HT := hide hT
  have CU := fun v xs z h hl => hide (specUnlike_any v xs z h hl)
  have CM := fun s z h => hide (specMonitorAt_any nv mv pv ms s z hN h hP.sl hml)
  clear hb1 hmi hpi hT
  obtain ⟨ao, c, rfl, _⟩ := hM
  obtain ⟨bo, d, rfl, _⟩ := hP
  obtain ⟨on, nn, cn, rfl⟩ := hN
  obtain ⟨R, eR⟩ : ∃ R, namB ms ps = R := ⟨_, rfl⟩
  have ER := hide eR
  rw [eR]
  clear eR
  go_enter Tryz.func28, Tryz.ntmps28
  go_wp2
  obtain ⟨W1, hW⟩ : ∃ W1, w.alloc (.cells #[.slice on nn cn, .slice ao ms.length c, .slice bo ps.length d] 33) = W1 := ⟨_, rfl⟩
  rw [hW] at HM HP HX HB HS ⊢
  clear hW
  obtain ⟨n, en⟩ : ∃ n, ms.length = n := ⟨_, rfl⟩
  have EN := hide en
  obtain ⟨q, eq⟩ : ∃ q, ps.length = q := ⟨_, rfl⟩
  have EQ := hide eq
  simp only [en, eq] at CM
  rw [en] at HM hml
  rw [eq] at HP hpl
  rw [en, eq] at HX ⊢
  clear en eq
  go_loopw [3, 4] (NmR (w.heap.size + 1) W1 n (fun i => (ms.take i).map Mo.name) (fun j => ∀ h : j < ms.length, monOkB ms[j] = true)) (fun _ iv _ => n - (intOf iv).toNat)
  case atStart => exact ⟨0, by omega, rfl, by
    have := ownsRow_empty W1 (w.heap.size + 1) 9 (by rw [HS.out]; exact Nat.le_refl _)
    rw [HS.out] at this
    exact this, (Below.refl _ _).alloc (Nat.le_refl _) _, fun j hj => absurd hj (Nat.not_lt_zero j)⟩
  case round =>
    obtain ⟨i, hi, rfl, HO, HB2, HG⟩ := hrel
    obtain ⟨c0, c1, c2, _⟩ := HX.out.stays HB2.out
    by_cases hlt : i < n
    · have hlt' : (i : Int) < (n : Int) := by omega
      have hi0 : (0 : Int) ≤ (i : Int) := by omega
      have hix : i < ms.length := by rw [EN.out]; exact hlt
      have HEL := hide (HMI.out _ (List.getElem_mem hix))
      have HNX : Hid ((ms.take (i + 1)).map Mo.name = (ms.take i).map Mo.name ++ [ms[i].name]) := by show _ = _; rw [List.take_succ_eq_append_getElem hix, List.map_append]; rfl
      have HLN : Hid (1 + ms[i].vars.length + ms[i].queues.length ≤ 1048576) := HT.out _ (List.getElem_mem hix)
      have HLL : Hid (((ms.take i).map Mo.name).length ≤ 1048576) := by show _ ≤ _; rw [List.length_map, List.length_take, EN.out]; omega
      have HBAD : Hid (monOkB ms[i] = false → R = false) := fun h => by rw [← ER.out]; exact namB_mon hix h
      obtain ⟨ao', cc, e5, hc⟩ := HM.out
      injection e5 with e6 e7 e8
      subst e6
      obtain ⟨a, vv, qv, ev, rfl, hab, hcell⟩ := hc i hix
      have HV1 := hide hcell.vars
      have HV2 := hide hcell.queues
      have HV3 := hide hcell.ents
      have hcell2 := hcell.stays HB2.out (by rw [block_add]; exact hab)
      obtain ⟨p, hpa⟩ : ∃ p, a.add (i * 4) = p := ⟨_, rfl⟩
      rw [hpa] at hcell2
      have HGOOD : Hid (monOkB ms[i] = true → ∀ j, j < i + 1 → ∀ h : j < ms.length, monOkB ms[j] = true) := fun h j hj hj2 => by
        by_cases e : j = i
        · subst e; exact h
        · exact HG.out j (by omega) hj2
      obtain ⟨x, ex⟩ : ∃ x, ms[i] = x := ⟨_, rfl⟩
      rw [ex] at HEL HNX hcell2 HV1 HV2 HV3 HLN HBAD HGOOD
      obtain ⟨d0, d1, d2, d3, hv1, hv2, hv3⟩ := hcell2
      obtain ⟨vo, vc, rfl, _⟩ := hv1
      obtain ⟨qo, qc, rfl, _⟩ := hv2
      obtain ⟨eo, ec, rfl, _⟩ := hv3
      clear ex hc e7 e8 hcell
      obtain ⟨L, eL⟩ : ∃ L, (ms.take i).map Mo.name = L := ⟨_, rfl⟩
      have EL := hide eL
      dsimp only at HO
      rw [eL] at HO HNX HLL
      clear eL hix HG
      have HML : Hid (1 + x.vars.length + x.queues.length ≤ 1048576) := HLN.out
      clear HLN
      have HOA := hide (HO.out.alloc (.cells #[.string x.name, .slice vo x.vars.length vc, .slice qo x.queues.length qc, .slice eo x.ents.length ec] 76))
      have HBA : Hid (Below W1.heap.size W1 (wr.alloc (.cells #[.string x.name, .slice vo x.vars.length vc, .slice qo x.queues.length qc, .slice eo x.ents.length ec] 76))) := HB2.out.alloc HB2.out.size _
      have HMB := hide (Box.made wr #[.string x.name, .slice vo x.vars.length vc, .slice qo x.queues.length qc, .slice eo x.ents.length ec] 76)
      have hwz : w.heap.size + 1 ≤ (wr.alloc (.cells #[.string x.name, .slice vo x.vars.length vc, .slice qo x.queues.length qc, .slice eo x.ents.length ec] 76)).heap.size := by rw [← HS.out]; exact HBA.out.size
      go_wp2_with (at_builtin; refine wpList_app_new (g := wr.heap.size + 1) (by simp) rfl (.tmp 26) (.tmp 29) 47 rfl (w.heap.size + 1) 9 (.string ⟨#[]⟩) 16 Tryz.underlying47 Tryz.infoStr rfl _ L.length _ _ rfl HOA.out 1 rfl rfl (by intro u hu; simp at hu; subst hu; rfl) (by have := HLL.out; unfold maxLen; omega) (by have := HLL.out; omega) hwz ?_)
      intro v1 w1 hown1 hb1 hk1
      have O1 : Hid (OwnS (w.heap.size + 1) v1 ((ms.take (i + 1)).map Mo.name) w1) := by
        rw [HNX.out]
        exact OwnS.more (k := [x.name]) hown1
      have B1 : Hid (Below W1.heap.size W1 w1) := HBA.out.trans (by rw [HS.out]; exact hb1)
      have M1 := hide (hk1 _ _ _ (by decide) HMB.out)
      obtain ⟨g5, eg5⟩ : ∃ g, wr.heap.size = g := ⟨_, rfl⟩
      rw [eg5] at M1 ⊢
      have p3 := Lib.cell_of_heap M1.out 3
      simp at p3
      clear hown1 hb1 hk1 HOA HBA HMB hwz HO eg5 d0 d1 d2 d3 c0 c1 c2 HB2
      obtain ⟨m, em⟩ : ∃ m, x.ents.length = m := ⟨_, rfl⟩
      have EM := hide em
      have hm : m ≤ 1048576 := by rw [← em]; exact HEL.out.len
      rw [em] at p3 HV3 M1 ⊢
      clear em
      go_wp2
      have HBW : Hid (∀ z, Below w1.heap.size w1 z → Below w.heap.size w z) := fun z h => HB.out.trans ((B1.out.trans (h.mono B1.out.size)).mono HB.out.size)
      go_loopw [6, 7] (NmR w1.heap.size w1 m (fun j => (x.ents.take j).map En.name) (fun j => ∀ h : j < x.ents.length, entOkB x x.ents[j] = true)) (fun _ iv _ => m - (intOf iv).toNat)
      case atStart => exact ⟨0, by omega, rfl, ownsRow_empty w1 w1.heap.size 9 (Nat.le_refl _), (Below.refl _ _).alloc (Nat.le_refl _) _, fun j hj => absurd hj (Nat.not_lt_zero j)⟩
      case round =>
        clear p3
        obtain ⟨j, hj, rfl, HO4, HB4, HG4⟩ := hrel
        dsimp only at HO4
        have p3 := Lib.cell_of_heap (M1.out.stays HB4.out) 3
        simp at p3
        by_cases hlt2 : j < m
        · have hlt2' : (j : Int) < (m : Int) := by omega
          have hj0 : (0 : Int) ≤ (j : Int) := by omega
          have hjx : j < x.ents.length := by rw [EM.out]; exact hlt2
          obtain ⟨eo', ec', e5, hec⟩ := HV3.out.stays B1.out
          injection e5 with e6 e7 e8
          subst e6
          obtain ⟨b, rfl, hbb, hy⟩ := hec j hjx
          obtain ⟨r, hra⟩ : ∃ r, b.add (j * 3) = r := ⟨_, rfl⟩
          rw [← block_add b (j * 3), hra] at hbb
          rw [hra] at hy
          have HNE : Hid ((x.ents.take (j + 1)).map En.name = (x.ents.take j).map En.name ++ [x.ents[j].name]) := by show _ = _; rw [List.take_succ_eq_append_getElem hjx, List.map_append]; rfl
          have HLE : Hid (((x.ents.take j).map En.name).length ≤ 1048576) := by show _ ≤ _; rw [List.length_map, List.length_take, EM.out]; omega
          have HBAD2 : Hid (entOkB x x.ents[j] = false → R = false) := fun h => HBAD.out (monOkB_ent hjx h)
          have HGOOD2 : Hid (entOkB x x.ents[j] = true → ∀ k, k < j + 1 → ∀ h : k < x.ents.length, entOkB x x.ents[k] = true) := fun h k hk hk2 => by
            by_cases e : k = j
            · subst e; exact h
            · exact HG4.out k (by omega) hk2
          obtain ⟨y, ey⟩ : ∃ y, x.ents[j] = y := ⟨_, rfl⟩
          rw [ey] at hy HNE HBAD2 HGOOD2
          have Y1 : Hid (∀ z, Below w1.heap.size w1 z → z.cell? { block := r.block, off := r.off + 1 } = some (.string y.param)) := fun z hz => (hz.cell (p := { block := r.block, off := r.off + 1 }) hbb).trans hy.c1
          have y0 := (HB4.out.cell (p := r) hbb).trans hy.c0
          clear hec ey e7 e8 hbb hy HG4
          obtain ⟨LE, eLE⟩ : ∃ LE, (x.ents.take j).map En.name = LE := ⟨_, rfl⟩
          rw [eLE] at HO4 HNE HLE
          clear eLE hjx
          have hwz : w1.heap.size ≤ wr.heap.size := HB4.out.size
          go_wp2_with (at_builtin; refine wpList_app_new (g := wr.heap.size) rfl rfl (.tmp 39) (.tmp 46) 47 rfl w1.heap.size 9 (.string ⟨#[]⟩) 16 Tryz.underlying47 Tryz.infoStr rfl _ LE.length _ _ rfl HO4.out 1 rfl rfl (by intro u hu; simp at hu; subst hu; rfl) (by have := HLE.out; unfold maxLen; omega) (by have := HLE.out; omega) hwz ?_)
          intro v4 w4 hown4 hb4 hk4
          have O4 : Hid (OwnS w1.heap.size v4 ((x.ents.take (j + 1)).map En.name) w4) := by
            rw [HNE.out]
            exact OwnS.more (k := [y.name]) hown4
          have B4 : Hid (Below w1.heap.size w1 w4) := HB4.out.trans hb4
          clear hown4 hb4 hk4 HO4 HNE HLE p3 y0 hwz HB4
          have B5 : Hid (∀ z, Below w4.heap.size w4 z → Below w1.heap.size w1 z) := fun z h => B4.out.trans (h.mono B4.out.size)
          have KC : Hid (∀ z, Below w4.heap.size w4 z → (z.cell? ⟨g5, 1, none⟩ = some (.slice vo x.vars.length vc) ∧ z.cell? ⟨g5, 2, none⟩ = some (.slice qo x.queues.length qc) ∧ z.cell? ⟨g5, 3, none⟩ = some (.slice (some b) m ec) ∧ z.cell? { block := r.block, off := r.off + 1 } = some (.string y.param) ∧ Hid (Below w4.heap.size w4 z))) := fun z hz => by
            have M2 := M1.out.stays (B5.out z hz)
            have p1 := Lib.cell_of_heap M2 1
            have p2 := Lib.cell_of_heap M2 2
            have p3 := Lib.cell_of_heap M2 3
            exact ⟨p1, p2, p3, Y1.out z (B5.out z hz), hz⟩
          have KV : Hid (∀ z, (z.cell? ⟨g5, 1, none⟩ = some (.slice vo x.vars.length vc) ∧ z.cell? ⟨g5, 2, none⟩ = some (.slice qo x.queues.length qc) ∧ z.cell? ⟨g5, 3, none⟩ = some (.slice (some b) m ec) ∧ z.cell? { block := r.block, off := r.off + 1 } = some (.string y.param) ∧ Hid (Below w4.heap.size w4 z)) → Below w4.heap.size w4 z) := fun z hz => hz.2.2.2.2.out
          have KP : Hid (∀ z z', (z.cell? ⟨g5, 1, none⟩ = some (.slice vo x.vars.length vc) ∧ z.cell? ⟨g5, 2, none⟩ = some (.slice qo x.queues.length qc) ∧ z.cell? ⟨g5, 3, none⟩ = some (.slice (some b) m ec) ∧ z.cell? { block := r.block, off := r.off + 1 } = some (.string y.param) ∧ Hid (Below w4.heap.size w4 z)) → Below w4.heap.size z z' → (z'.cell? ⟨g5, 1, none⟩ = some (.slice vo x.vars.length vc) ∧ z'.cell? ⟨g5, 2, none⟩ = some (.slice qo x.queues.length qc) ∧ z'.cell? ⟨g5, 3, none⟩ = some (.slice (some b) m ec) ∧ z'.cell? { block := r.block, off := r.off + 1 } = some (.string y.param) ∧ Hid (Below w4.heap.size w4 z'))) := fun z z' hz hb => KC.out _ ((KV.out z hz).trans hb)
          have KL : Hid (∀ z, (z.cell? ⟨g5, 1, none⟩ = some (.slice vo x.vars.length vc) ∧ z.cell? ⟨g5, 2, none⟩ = some (.slice qo x.queues.length qc) ∧ z.cell? ⟨g5, 3, none⟩ = some (.slice (some b) m ec) ∧ z.cell? { block := r.block, off := r.off + 1 } = some (.string y.param) ∧ Hid (Below w4.heap.size w4 z)) → StrsAt z (.slice vo x.vars.length vc) x.vars) := fun z hz => (HV1.out.stays B1.out).stays (B5.out z (KV.out z hz))
          have KQ : Hid (∀ z, (z.cell? ⟨g5, 1, none⟩ = some (.slice vo x.vars.length vc) ∧ z.cell? ⟨g5, 2, none⟩ = some (.slice qo x.queues.length qc) ∧ z.cell? ⟨g5, 3, none⟩ = some (.slice (some b) m ec) ∧ z.cell? { block := r.block, off := r.off + 1 } = some (.string y.param) ∧ Hid (Below w4.heap.size w4 z)) → StrsAt z (.slice qo x.queues.length qc) x.queues) := fun z hz => (HV2.out.stays B1.out).stays (B5.out z (KV.out z hz))
          have K0 := hide (KC.out _ (Below.refl _ _).drew)
          have K1 := hide (KC.out _ ((Below.refl w4.heap.size w4).alloc (Nat.le_refl _) (.cells #[.string y.param] 9)).drew)
          have OWN : Hid ((w4.alloc (.cells #[.string y.param] 9)).drew.ownsRow w4.heap.size 9 1 (.slice (some ⟨w4.heap.size, 0, none⟩) 1 1) 1 [.string y.param]) := World.ownsRow_lit (base := w4.heap.size) (e := 9) (size := 1) w4 #[.string y.param] 1 (Nat.le_refl _) (by unfold maxLen; omega) rfl
          have h61 : 1 + x.vars.length ≤ maxLen := by have := HML.out; unfold maxLen; omega
          have h62 : (1 + x.vars.length) * 16 ≤ 140737488355328 := by have := HML.out; omega
          have h63 : 1 + x.vars.length + x.queues.length ≤ maxLen := by have := HML.out; unfold maxLen; omega
          have h64 : (1 + x.vars.length + x.queues.length) * 16 ≤ 140737488355328 := by have := HML.out; omega
          have h65 : ([y.param] ++ x.vars ++ x.queues).length ≤ 1048576 := by have := HML.out; simp only [List.length_append, List.length_singleton]; omega
          go_wp2_with fail
          go_region_held3 (fun z => z.cell? ⟨g5, 1, none⟩ = some (.slice vo x.vars.length vc) ∧ z.cell? ⟨g5, 2, none⟩ = some (.slice qo x.queues.length qc) ∧ z.cell? ⟨g5, 3, none⟩ = some (.slice (some b) m ec) ∧ z.cell? { block := r.block, off := r.off + 1 } = some (.string y.param) ∧ Hid (Below w4.heap.size w4 z)) (first | exact K0.out | exact K1.out | exact KP.out _ _ K1.out hb6 | exact KP.out _ _ (KP.out _ _ K1.out hb6) hb7)
            (first
              | (refine step_app_strs rfl _ _ 47 rfl w4.heap.size 9 (.string ⟨#[]⟩) 16 Tryz.underlying47 Tryz.infoStrV rfl _ 1 [.string y.param] rfl OWN.out _ x.vars rfl (KL.out _ (by assumption)) h61 h62 (by simp) ?_; intro v6 w6 ho6 hb6)
              | (refine step_app_strs rfl _ _ 47 rfl w4.heap.size 9 (.string ⟨#[]⟩) 16 Tryz.underlying47 Tryz.infoStrV rfl v6 (1 + x.vars.length) ([.string y.param] ++ x.vars.map Value.string) rfl ho6 (.slice qo x.queues.length qc) x.queues rfl (KQ.out _ (by assumption)) h63 h64 (Nat.le_trans (by simp) hb6.size) ?_; intro v7 w7 ho7 hb7))
          have D := hide (KV.out w7 (by assumption))
          have HR : Hid (StrsAt w7 v7 ([y.param] ++ x.vars ++ x.queues)) := StrsAt.own (xs := [y.param] ++ x.vars ++ x.queues) (by rw [List.map_append, List.map_append]; exact ho7)
          have CN := CU v7 _ w7 HR.out h65
          clear ho6 hb6 ho7 hb7 OWN K0 K1 KP KL KQ KC KV
          cases hq : unlikeB ([y.param] ++ x.vars ++ x.queues) with
          | false =>
            rw [hq] at CN
            have eR2 : R = false := HBAD2.out hq
            subst eR2
            clear hq
            go_wp2_with (go_at_call 55; refine (unhide CN).mono ?_; rintro e w8 ⟨rfl, hb8⟩)
            go_ret
            exact ⟨rfl, HBW.out _ (B5.out _ (D.out.trans (hb8.mono D.out.size)))⟩
          | true =>
            rw [hq] at CN
            have GG := hide (HGOOD2.out hq)
            clear hq
            go_wp2_with (go_at_call 55; refine (unhide CN).mono ?_; rintro e w8 ⟨rfl, hb8⟩)
            have E8 : Hid (Below w4.heap.size w4 w8) := D.out.trans (hb8.mono D.out.size)
            clear hb8
            go_roundw
            case rel => exact ⟨j + 1, by omega, by go_num, ownS_stays O4.out E8.out, B5.out _ E8.out, GG.out⟩
            case measure => simp [intOf]; omega
        · have hlt2' : ¬ (j : Int) < (m : Int) := by omega
          have ej : j = m := by omega
          have e9 : x.ents.take j = x.ents := List.take_of_length_le (by rw [EM.out]; omega)
          rw [e9] at HO4
          have HR := hide (StrsAt.own HO4.out)
          have h66 : (x.ents.map En.name).length ≤ 1048576 := by rw [List.length_map, EM.out]; exact hm
          have CN := CU _ _ wr HR.out h66
          have HYES : Hid (unlikeB (x.ents.map En.name) = true → monOkB x = true) := fun hq => monOkB_yes (fun k hk => HG4.out k (by have := hk; rw [EM.out] at this; omega) hk) hq
          clear HG4 e9
          cases hq : unlikeB (x.ents.map En.name) with
          | false =>
            rw [hq] at CN
            have eR2 : R = false := HBAD.out (monOkB_names hq)
            subst eR2
            clear hq
            go_wp2_with (go_at_call 55; refine (unhide CN).mono ?_; rintro e w8 ⟨rfl, hb8⟩)
            go_ret
            exact ⟨rfl, HBW.out _ (HB4.out.trans (hb8.mono HB4.out.size))⟩
          | true =>
            rw [hq] at CN
            have GG := hide (HGOOD.out (HYES.out hq))
            clear hq
            go_wp2_with (go_at_call 55; refine (unhide CN).mono ?_; rintro e w8 ⟨rfl, hb8⟩)
            have E8 : Hid (Below w1.heap.size w1 w8) := HB4.out.trans (hb8.mono HB4.out.size)
            clear hb8
            go_roundw
            case rel => exact ⟨i + 1, by omega, by go_num, ownS_stays O1.out E8.out, B1.out.trans (E8.out.mono B1.out.size), GG.out⟩
            case measure => simp [intOf]; omega
    · have hlt' : ¬ (i : Int) < (n : Int) := by omega
      have e9 : ms.take i = ms := List.take_of_length_le (by rw [EN.out]; omega)
      dsimp only at HO
      rw [e9] at HO
      have HGM : Hid (∀ k (hk : k < ms.length), monOkB ms[k] = true) := fun k hk => HG.out k (by have := hk; rw [EN.out] at this; omega) hk
      obtain ⟨W2, e⟩ : ∃ W2, W2 = wr := ⟨_, rfl⟩
      subst e
      clear e9 HG
      go_wp2
      have HBW2 : Hid (∀ z, Below W2.heap.size W2 z → Below w.heap.size w z) := fun z h => HB.out.trans ((HB2.out.trans (h.mono HB2.out.size)).mono HB.out.size)
      clear c0 c1 c2
      go_loopw [9, 10] (NmR W2.heap.size W2 q (fun i => (ps.take i).map Pr.name) (fun j => ∀ h : j < ps.length, proOkB ms ps[j] = true)) (fun _ iv _ => q - (intOf iv).toNat)
      case atStart => exact ⟨0, by omega, rfl, ownsRow_empty W2 W2.heap.size 9 (Nat.le_refl _), (Below.refl _ _).alloc (Nat.le_refl _) _, fun j hj => absurd hj (Nat.not_lt_zero j)⟩
      case round =>
        clear hlt hlt' hi
        obtain ⟨i, hi, rfl, HO3, HB3, HG⟩ := hrel
        dsimp only at HO3
        have B13 : Hid (Below W1.heap.size W1 wr) := HB2.out.trans (HB3.out.mono HB2.out.size)
        obtain ⟨c0, c1, c2, _⟩ := HX.out.stays B13.out
        by_cases hlt : i < q
        · have hlt' : (i : Int) < (q : Int) := by omega
          have hi0 : (0 : Int) ≤ (i : Int) := by omega
          have hix : i < ps.length := by rw [EQ.out]; exact hlt
          have HEL := hide (HPI.out _ (List.getElem_mem hix))
          have HNX : Hid ((ps.take (i + 1)).map Pr.name = (ps.take i).map Pr.name ++ [ps[i].name]) := by show _ = _; rw [List.take_succ_eq_append_getElem hix, List.map_append]; rfl
          have HLL : Hid (((ps.take i).map Pr.name).length ≤ 1048576) := by show _ ≤ _; rw [List.length_map, List.length_take, EQ.out]; omega
          have HBAD : Hid (proOkB ms ps[i] = false → R = false) := fun h => by rw [← ER.out]; exact namB_pro hix h
          have HGOOD : Hid (proOkB ms ps[i] = true → ∀ j, j < i + 1 → ∀ h : j < ps.length, proOkB ms ps[j] = true) := fun h j hj hj2 => by
            by_cases e : j = i
            · subst e; exact h
            · exact HG.out j (by omega) hj2
          obtain ⟨ao', cc, e5, hc⟩ := HP.out
          injection e5 with e6 e7 e8
          subst e6
          obtain ⟨a, uv, vv, rfl, hab, hcell⟩ := hc i hix
          have HV1 := hide hcell.uses
          have HV2 := hide hcell.vars
          have hcell2 := hcell.stays B13.out (by rw [block_add]; exact hab)
          obtain ⟨p, hpa⟩ : ∃ p, a.add (i * 4) = p := ⟨_, rfl⟩
          rw [hpa] at hcell2
          obtain ⟨x, ex⟩ : ∃ x, ps[i] = x := ⟨_, rfl⟩
          rw [ex] at HEL HNX hcell2 HV1 HV2 HBAD HGOOD
          obtain ⟨d0, d1, d2, d3, hv1, hv2⟩ := hcell2
          obtain ⟨uo, uc, rfl, _⟩ := hv1
          obtain ⟨vo, vc, rfl, _⟩ := hv2
          clear ex hc e7 e8 hcell
          obtain ⟨L, eL⟩ : ∃ L, (ps.take i).map Pr.name = L := ⟨_, rfl⟩
          rw [eL] at HO3 HNX HLL
          clear eL hix HG
          have HOA := hide (HO3.out.alloc (.cells #[.string x.name, .slice uo x.uses.length uc, .slice vo x.vars.length vc, .int .i64 x.body] 49))
          have HBA : Hid (Below W2.heap.size W2 (wr.alloc (.cells #[.string x.name, .slice uo x.uses.length uc, .slice vo x.vars.length vc, .int .i64 x.body] 49))) := HB3.out.alloc HB3.out.size _
          have HMB := hide (Box.made wr #[.string x.name, .slice uo x.uses.length uc, .slice vo x.vars.length vc, .int .i64 x.body] 49)
          have hwz : W2.heap.size ≤ (wr.alloc (.cells #[.string x.name, .slice uo x.uses.length uc, .slice vo x.vars.length vc, .int .i64 x.body] 49)).heap.size := HBA.out.size
          go_wp2_with (at_builtin; refine wpList_app_new (g := wr.heap.size + 1) (by simp) rfl (.tmp 80) (.tmp 83) 47 rfl W2.heap.size 9 (.string ⟨#[]⟩) 16 Tryz.underlying47 Tryz.infoStr rfl _ L.length _ _ rfl HOA.out 1 rfl rfl (by intro u hu; simp at hu; subst hu; rfl) (by have := HLL.out; unfold maxLen; omega) (by have := HLL.out; omega) hwz ?_)
          intro v1 w1 hown1 hb1 hk1
          have O1 : Hid (OwnS W2.heap.size v1 ((ps.take (i + 1)).map Pr.name) w1) := by
            rw [HNX.out]
            exact OwnS.more (k := [x.name]) hown1
          have B1 : Hid (Below W2.heap.size W2 w1) := HBA.out.trans hb1
          have M1 := hide (hk1 _ _ _ (by decide) HMB.out)
          obtain ⟨g5, eg5⟩ : ∃ g, wr.heap.size = g := ⟨_, rfl⟩
          rw [eg5] at M1 ⊢
          have p1 := Lib.cell_of_heap M1.out 1
          simp at p1
          clear hown1 hb1 hk1 HOA HBA HMB hwz HO3 eg5 d0 d1 d2 d3 c0 c1 c2 HB3 B13
          obtain ⟨m, em⟩ : ∃ m, x.uses.length = m := ⟨_, rfl⟩
          have EM := hide em
          have hm : m ≤ 1048576 := by rw [← em]; exact HEL.out.uses.1
          rw [em] at p1 HV1 M1 ⊢
          clear em
          go_wp2
          have B11 : Hid (Below W1.heap.size W1 w1) := HB2.out.trans (B1.out.mono HB2.out.size)
          have HBW : Hid (∀ z, Below w1.heap.size w1 z → Below w.heap.size w z) := fun z h => HBW2.out _ (B1.out.trans (h.mono B1.out.size))
          go_loopw [12] (UsR w1 m (fun j => ∀ h : j < x.uses.length, ¬ firstAt (monN x.uses[j]) ms < 0)) (fun iv _ => m - (intOf iv).toNat)
          case atStart => exact ⟨0, by omega, rfl, Below.refl _ _, fun j hj => absurd hj (Nat.not_lt_zero j)⟩
          case round =>
            clear p1
            obtain ⟨j, hj, rfl, HB4, HG4⟩ := hrel
            have p1 := Lib.cell_of_heap (M1.out.stays HB4.out) 1
            simp at p1
            by_cases hlt2 : j < m
            · have hlt2' : (j : Int) < (m : Int) := by omega
              have hj0 : (0 : Int) ≤ (j : Int) := by omega
              have hjx : j < x.uses.length := by rw [EM.out]; exact hlt2
              obtain ⟨eo', ec', e5, hec⟩ := HV1.out.stays B11.out
              injection e5 with e6 e7 e8
              subst e6
              obtain ⟨b, rfl, hbb, hy⟩ := hec j hjx
              have HBAD2 : Hid (firstAt (monN x.uses[j]) ms < 0 → R = false) := fun h => HBAD.out (proOkB_use hjx h)
              have HGOOD2 : Hid (¬ firstAt (monN x.uses[j]) ms < 0 → ∀ k, k < j + 1 → ∀ h : k < x.uses.length, ¬ firstAt (monN x.uses[k]) ms < 0) := fun h k hk hk2 => by
                by_cases e : k = j
                · subst e; exact h
                · exact HG4.out k (by omega) hk2
              obtain ⟨u, eu⟩ : ∃ u, x.uses[j] = u := ⟨_, rfl⟩
              rw [eu] at hy HBAD2 HGOOD2
              obtain ⟨r, hra⟩ : ∃ r, b.add j = r := ⟨_, rfl⟩
              rw [← block_add b j, hra] at hbb
              rw [hra] at hy
              have Y0 : Hid (∀ z, Below w1.heap.size w1 z → z.cell? r = some (.string u)) := fun z hz => (hz.cell (p := r) hbb).trans hy
              clear hec eu e7 e8 hbb hy HG4 hjx
              have KC : Hid (∀ z, Below w1.heap.size w1 z → (z.cell? ⟨w.heap.size, 0, none⟩ = some (.slice on nn cn) ∧ z.cell? ⟨w.heap.size, 1, none⟩ = some (.slice ao n c) ∧ z.cell? ⟨w.heap.size, 2, none⟩ = some (.slice (some a) q d) ∧ z.cell? ⟨g5, 1, none⟩ = some (.slice (some b) m uc) ∧ z.cell? r = some (.string u) ∧ Hid (Below w1.heap.size w1 z))) := fun z hz => by
                obtain ⟨c0, c1, c2, _⟩ := HX.out.stays (B11.out.trans (hz.mono B11.out.size))
                exact ⟨c0, c1, c2, Lib.cell_of_heap (M1.out.stays hz) 1, Y0.out z hz, hz⟩
              have KV : Hid (∀ z, (z.cell? ⟨w.heap.size, 0, none⟩ = some (.slice on nn cn) ∧ z.cell? ⟨w.heap.size, 1, none⟩ = some (.slice ao n c) ∧ z.cell? ⟨w.heap.size, 2, none⟩ = some (.slice (some a) q d) ∧ z.cell? ⟨g5, 1, none⟩ = some (.slice (some b) m uc) ∧ z.cell? r = some (.string u) ∧ Hid (Below w1.heap.size w1 z)) → Below w1.heap.size w1 z) := fun z hz => hz.2.2.2.2.2.out
              have KP : Hid (∀ z z', (z.cell? ⟨w.heap.size, 0, none⟩ = some (.slice on nn cn) ∧ z.cell? ⟨w.heap.size, 1, none⟩ = some (.slice ao n c) ∧ z.cell? ⟨w.heap.size, 2, none⟩ = some (.slice (some a) q d) ∧ z.cell? ⟨g5, 1, none⟩ = some (.slice (some b) m uc) ∧ z.cell? r = some (.string u) ∧ Hid (Below w1.heap.size w1 z)) → Below z.heap.size z z' → (z'.cell? ⟨w.heap.size, 0, none⟩ = some (.slice on nn cn) ∧ z'.cell? ⟨w.heap.size, 1, none⟩ = some (.slice ao n c) ∧ z'.cell? ⟨w.heap.size, 2, none⟩ = some (.slice (some a) q d) ∧ z'.cell? ⟨g5, 1, none⟩ = some (.slice (some b) m uc) ∧ z'.cell? r = some (.string u) ∧ Hid (Below w1.heap.size w1 z'))) := fun z z' hz hb => KC.out _ ((KV.out z hz).trans (hb.mono (KV.out z hz).size))
              have KM : Hid (∀ z, (z.cell? ⟨w.heap.size, 0, none⟩ = some (.slice on nn cn) ∧ z.cell? ⟨w.heap.size, 1, none⟩ = some (.slice ao n c) ∧ z.cell? ⟨w.heap.size, 2, none⟩ = some (.slice (some a) q d) ∧ z.cell? ⟨g5, 1, none⟩ = some (.slice (some b) m uc) ∧ z.cell? r = some (.string u) ∧ Hid (Below w1.heap.size w1 z)) → MosAt z (.slice ao n c) ms) := fun z hz => HM.out.stays (B11.out.trans ((KV.out z hz).mono B11.out.size))
              have K0 := hide (KC.out _ (HB4.out.trans (Below.refl _ _).drew))
              have CM1 := fun z h => CM u z h
              obtain ⟨fi, efi⟩ : ∃ fi, firstAt (monN u) ms = fi := ⟨_, rfl⟩
              rw [efi] at CM1 HBAD2 HGOOD2
              clear efi
              by_cases hfi : fi < 0
              · have eR2 : R = false := HBAD2.out hfi
                subst eR2
                go_wp2_with fail
                clear p1
                go_region_held3 (fun z => z.cell? ⟨w.heap.size, 0, none⟩ = some (.slice on nn cn) ∧ z.cell? ⟨w.heap.size, 1, none⟩ = some (.slice ao n c) ∧ z.cell? ⟨w.heap.size, 2, none⟩ = some (.slice (some a) q d) ∧ z.cell? ⟨g5, 1, none⟩ = some (.slice (some b) m uc) ∧ z.cell? r = some (.string u) ∧ Hid (Below w1.heap.size w1 z)) (first | exact K0.out | exact KP.out _ _ (by assumption) hb7) ((go_at_call 56; refine (unhide (CM1 _ (KM.out _ (by assumption)))).mono ?_; rintro e w7 ⟨rfl, hb7⟩))
                all_goals go_wp2
                all_goals go_ret
                all_goals exact ⟨rfl, HBW.out _ (KV.out _ (by assumption))⟩
              · have GG := hide (HGOOD2.out hfi)
                go_wp2_with fail
                clear p1
                go_region_held3 (fun z => z.cell? ⟨w.heap.size, 0, none⟩ = some (.slice on nn cn) ∧ z.cell? ⟨w.heap.size, 1, none⟩ = some (.slice ao n c) ∧ z.cell? ⟨w.heap.size, 2, none⟩ = some (.slice (some a) q d) ∧ z.cell? ⟨g5, 1, none⟩ = some (.slice (some b) m uc) ∧ z.cell? r = some (.string u) ∧ Hid (Below w1.heap.size w1 z)) (first | exact K0.out | exact KP.out _ _ (by assumption) hb7) ((go_at_call 56; refine (unhide (CM1 _ (KM.out _ (by assumption)))).mono ?_; rintro e w7 ⟨rfl, hb7⟩))
                have D := hide (KV.out w7 (by assumption))
                go_wp2
                go_roundw
                case rel => exact ⟨j + 1, by omega, by go_num, D.out, fun k hk h => by have := GG.out k hk h; omega⟩
                case measure => simp [intOf]; omega
            · have hlt2' : ¬ (j : Int) < (m : Int) := by omega
              have HPO : Hid (proOkB ms x = (unlikeB x.uses && unlikeB x.vars)) := proOkB_of fun k hk => HG4.out k (by have := hk; rw [EM.out] at this; omega) hk
              clear HG4
              have CN1 := CU _ _ wr ((HV1.out.stays B11.out).stays HB4.out) (by rw [EM.out]; exact hm)
              cases hq1 : unlikeB x.uses with
              | false =>
                rw [hq1] at CN1
                have eR2 : R = false := HBAD.out (by rw [HPO.out, hq1]; rfl)
                subst eR2
                clear hq1
                go_wp2_with (go_at_call 55; refine (unhide CN1).mono ?_; rintro e w8 ⟨rfl, hb8⟩)
                go_ret
                exact ⟨rfl, HBW.out _ (HB4.out.trans (hb8.mono HB4.out.size))⟩
              | true =>
                rw [hq1] at CN1 HPO
                clear hq1
                go_wp2_with fail
                refine (unhide CN1).mono ?_
                rintro e w8 ⟨rfl, hb8⟩
                have E8 : Hid (Below w1.heap.size w1 w8) := HB4.out.trans (hb8.mono HB4.out.size)
                clear hb8 p1
                have p2 := Lib.cell_of_heap (M1.out.stays E8.out) 2
                simp at p2
                have CN2 := CU _ _ w8 ((HV2.out.stays B11.out).stays E8.out) HEL.out.vars.1
                cases hq2 : unlikeB x.vars with
                | false =>
                  rw [hq2] at CN2
                  have eR2 : R = false := HBAD.out (by rw [HPO.out, hq2]; rfl)
                  subst eR2
                  clear hq2
                  go_wp2_with (go_at_call 55; refine (unhide CN2).mono ?_; rintro e w9 ⟨rfl, hb9⟩)
                  go_ret
                  exact ⟨rfl, HBW.out _ (E8.out.trans (hb9.mono E8.out.size))⟩
                | true =>
                  rw [hq2] at CN2
                  have GG := hide (HGOOD.out (by rw [HPO.out, hq2]; rfl))
                  clear hq2
                  go_wp2_with (go_at_call 55; refine (unhide CN2).mono ?_; rintro e w9 ⟨rfl, hb9⟩)
                  have E9 : Hid (Below w1.heap.size w1 w9) := E8.out.trans (hb9.mono E8.out.size)
                  clear hb9
                  go_roundw
                  case rel => exact ⟨i + 1, by omega, by go_num, ownS_stays O1.out E9.out, B1.out.trans (E9.out.mono B1.out.size), GG.out⟩
                  case measure => simp [intOf]; omega
        · have hlt' : ¬ (i : Int) < (q : Int) := by omega
          have e9 : ps.take i = ps := List.take_of_length_le (by rw [EQ.out]; omega)
          rw [e9] at HO3
          have HRR : Hid (R = (unlikeB (ms.map Mo.name) && unlikeB (ps.map Pr.name))) := by
            show _ = _
            rw [← ER.out]
            exact namB_of HGM.out fun k hk => HG.out k (by have := hk; rw [EQ.out] at this; omega) hk
          clear HG e9
          have h66 : (ms.map Mo.name).length ≤ 1048576 := by rw [List.length_map, EN.out]; exact hml
          have h67 : (ps.map Pr.name).length ≤ 1048576 := by rw [List.length_map, EQ.out]; exact hpl
          have CN1 := CU _ _ wr ((StrsAt.own HO.out).stays HB3.out) h66
          cases hq1 : unlikeB (ms.map Mo.name) with
          | false =>
            rw [hq1] at CN1
            have eR2 : R = false := by rw [HRR.out, hq1]; rfl
            subst eR2
            clear hq1
            go_wp2_with (go_at_call 55; refine (unhide CN1).mono ?_; rintro e w8 ⟨rfl, hb8⟩)
            go_ret
            exact ⟨rfl, HBW2.out _ (HB3.out.trans (hb8.mono HB3.out.size))⟩
          | true =>
            rw [hq1] at CN1 HRR
            clear hq1
            go_wp2_with fail
            refine (unhide CN1).mono ?_
            rintro e w8 ⟨rfl, hb8⟩
            have CN2 := CU _ _ w8 ((StrsAt.own HO3.out).stays hb8) h67
            have eR2 : R = unlikeB (ps.map Pr.name) := by rw [HRR.out, Bool.true_and]
            subst eR2
            have E8 : Hid (Below W2.heap.size W2 w8) := HB3.out.trans (hb8.mono HB3.out.size)
            clear hb8
            go_wp2_with (go_at_call 55; refine (unhide CN2).mono ?_; rintro e w9 ⟨rfl, hb9⟩)
            go_ret
            exact ⟨rfl, HBW2.out _ (E8.out.trans (hb9.mono E8.out.size))⟩
end Go.Proofs.YtpdpmnkonkpheaaGreat

namespace Go.Proofs.YtpdpmnkonkpheaaGreat
open Go.RowKit

theorem OwnS.low {a b : Nat} {v : Value} {l : List ByteArray} {w : World} (h : OwnS b v l w) (hab : a ≤ b) : OwnS a v l w := by
  obtain ⟨h1, h2⟩ := h
  refine ⟨h1, ?_⟩
  rcases h2 with h2 | ⟨g, cap, cur, rfl, hb1, r⟩
  · exact .inl h2
  · exact .inr ⟨g, cap, cur, rfl, Nat.le_trans hab hb1, r⟩
def EnrR (w W1 : World) (n : Nat) (L : Nat → List ByteArray) (v iv : Value) (wr : World) : Prop :=
  ∃ i : Nat, i ≤ n ∧ iv = .int .i64 i ∧ Hid (OwnS (w.heap.size + 1) v (L i) wr) ∧ Hid (Below W1.heap.size W1 wr)

set_option maxRecDepth 100000 in
set_option maxHeartbeats 4000000 in
theorem entryNames_any (nm : ByteArray) (vv qv ev : Value) (es : List En) (w : World) (hV : SlV vv) (hQ : SlV qv) (hE : EnsAt w ev es) (hl : es.length ≤ 1048576) :
    Calls Tryz.prog 77 #[.agg #[.string nm, vv, qv, ev]] w fun e w' => ∃ v, e = .returned v ∧ OwnS w.heap.size v (es.map En.name) w' ∧ Below w.heap.size w w' := by
  have hb1 : Below w.heap.size w (w.alloc (.cells #[.string nm, vv, qv, ev] 76)) := (Below.refl _ _).alloc (Nat.le_refl _) _
  have HE := hide (hE.stays hb1)
  have HB := hide hb1
  have HX := hide (Box.made w #[.string nm, vv, qv, ev] 76)
  obtain ⟨vo, vn, vc, rfl⟩ := hV
  obtain ⟨qo, qn, qc, rfl⟩ := hQ
  obtain ⟨eo, ec, rfl, _⟩ := hE
  clear hb1
  have HS : Hid ((w.alloc (.cells #[.string nm, .slice vo vn vc, .slice qo qn qc, .slice eo es.length ec] 76)).heap.size = w.heap.size + 1) := by show _ = _; simp
  obtain ⟨n, en⟩ : ∃ n, es.length = n := ⟨_, rfl⟩
  have EN := hide en
  rw [en] at HE HB HX HS hl ⊢
  clear en
  go_enter Tryz.func77, Tryz.ntmps77
  go_wp2
  obtain ⟨W1, hW⟩ : ∃ W1, w.alloc (.cells #[.string nm, .slice vo vn vc, .slice qo qn qc, .slice eo n ec] 76) = W1 := ⟨_, rfl⟩
  rw [hW] at HE HX HB HS ⊢
  clear hW
  go_loopw [3, 10] (EnrR w W1 n (fun i => (es.take i).map En.name)) (fun _ iv _ => n - (intOf iv).toNat)
  case atStart => exact ⟨0, by omega, rfl, by
    have := ownsRow_empty W1 (w.heap.size + 1) 9 (by rw [HS.out]; exact Nat.le_refl _)
    rw [HS.out] at this
    exact this, (Below.refl _ _).alloc (Nat.le_refl _) _⟩
  case round =>
    obtain ⟨i, hi, rfl, HO, HB2⟩ := hrel
    dsimp only at HO
    by_cases hlt : i < n
    · have hlt' : (i : Int) < (n : Int) := by omega
      have hi0 : (0 : Int) ≤ (i : Int) := by omega
      have hix : i < es.length := by rw [EN.out]; exact hlt
      have HNX : Hid ((es.take (i + 1)).map En.name = (es.take i).map En.name ++ [es[i].name]) := by show _ = _; rw [List.take_succ_eq_append_getElem hix, List.map_append]; rfl
      have HLL : Hid (((es.take i).map En.name).length ≤ 1048576) := by show _ ≤ _; rw [List.length_map, List.length_take, EN.out]; omega
      obtain ⟨eo', ec', e5, hec⟩ := HE.out.stays HB2.out
      injection e5 with e6 e7 e8
      subst e6
      obtain ⟨b, rfl, hbb, hy⟩ := hec i hix
      obtain ⟨r, hra⟩ : ∃ r, b.add (i * 3) = r := ⟨_, rfl⟩
      rw [hra] at hy
      obtain ⟨x, ex⟩ : ∃ x, es[i] = x := ⟨_, rfl⟩
      rw [ex] at hy HNX
      obtain ⟨d0, d1, d2⟩ := hy
      clear ex hec e7 e8 hbb
      obtain ⟨L, eL⟩ : ∃ L, (es.take i).map En.name = L := ⟨_, rfl⟩
      rw [eL] at HO HNX HLL
      clear eL hix
      have HOA := hide (HO.out.alloc (.cells #[.string x.name, .string x.param, .int .i64 x.body] 99))
      have HBA : Hid (Below W1.heap.size W1 (wr.alloc (.cells #[.string x.name, .string x.param, .int .i64 x.body] 99))) := HB2.out.alloc HB2.out.size _
      have hwz : w.heap.size + 1 ≤ (wr.alloc (.cells #[.string x.name, .string x.param, .int .i64 x.body] 99)).heap.size := by rw [← HS.out]; exact HBA.out.size
      go_wp2_with (at_builtin; refine wpList_app_new (g := wr.heap.size + 1) (by simp) rfl (.tmp 14) (.tmp 17) 47 rfl (w.heap.size + 1) 9 (.string ⟨#[]⟩) 16 Tryz.underlying47 Tryz.infoStr rfl _ L.length _ _ rfl HOA.out 1 rfl rfl (by intro u hu; simp at hu; subst hu; rfl) (by have := HLL.out; unfold maxLen; omega) (by have := HLL.out; omega) hwz ?_)
      intro v1 w1 hown1 hb1 hk1
      have O1 : Hid (OwnS (w.heap.size + 1) v1 ((es.take (i + 1)).map En.name) w1) := by
        rw [HNX.out]
        exact OwnS.more (k := [x.name]) hown1
      have B1 : Hid (Below W1.heap.size W1 w1) := HBA.out.trans (by rw [HS.out]; exact hb1)
      clear hown1 hb1 hk1 HOA HBA hwz HO d0 d1 d2 HB2
      go_wp2
      go_roundw
      case rel => exact ⟨i + 1, by omega, by go_num, O1.out, B1.out⟩
      case measure => simp [intOf]; omega
    · have hlt' : ¬ (i : Int) < (n : Int) := by omega
      have e9 : es.take i = es := List.take_of_length_le (by rw [EN.out]; omega)
      rw [e9] at HO
      go_wp2
      go_ret
      exact ⟨_, rfl, HO.out.low (Nat.le_succ _), HB.out.trans (HB2.out.mono HB.out.size)⟩
end Go.Proofs.YtpdpmnkonkpheaaGreat
