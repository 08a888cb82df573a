/-
  Walks: where each node stands, by the specification.
-/
import Derived.Test.YtpdpmnkonkpheaaGreatNodM
import Derived.Test.YtpdpmnkonkpheaaGreatPureP
import Derived.Deep.RegionHeld3
import Derived.Handy
namespace Go.Proofs.YtpdpmnkonkpheaaGreat
open Go.RowKit

theorem Tryz.infoHome : (Tryz.prog.info? 71).map (fun i => (i.zero, i.size, i.bytes)) = some (some (.agg #[.int .i64 0, .int .i64 0, .int .i64 0]), 3, 24) := by kernel_rfl
/-- While homes are found: the row of homes, what was there. -/
structure HmZ (W1 : World) (n : Nat) (hs : List Hm) (wr : World) : Prop where
  own : wr.ownsRow W1.heap.size 71 3 (.slice (some ⟨W1.heap.size, 0, none⟩) n n) n (hs.map hmV).flatten
  bel : Below W1.heap.size W1 wr
  len : hs.length = n
theorem HmZ.stays {W1 : World} {n : Nat} {hs : List Hm} {wr w' : World} (h : HmZ W1 n hs wr) (hb : Below wr.heap.size wr w') : HmZ W1 n hs w' :=
  ⟨ownsInts_stays h.own hb, h.bel.trans (hb.mono h.bel.size), h.len⟩
theorem HmZ.step {W1 : World} {n : Nat} {hs : List Hm} {wr : World} (h : HmZ W1 n hs wr) {j : Nat} (hj : j < n) (y : Hm) : HmZ W1 n (hs.set j y) (wr.setCells W1.heap.size (j * 3) (hmV y)) := by
  refine ⟨?_, bel_setCells (Nat.le_refl _) _ _ _ h.bel, by rw [List.length_set]; exact h.len⟩
  have := owns_setCells (hmV y) (j * 3) wr _ h.own
  rw [setLs_flat (s := 3) (hs.map hmV) j (hmV y) (fun c hc => by obtain ⟨z, _, rfl⟩ := List.mem_map.1 hc; rfl) rfl (by rw [List.length_map, h.len]; exact hj), ← List.map_set] at this
  exact this
theorem HmZ.there {W1 : World} {n : Nat} {hs : List Hm} {wr : World} (h : HmZ W1 n hs wr) {j : Nat} (hj : j < n) (i : Nat) (hi : i < 3) : ∃ v, wr.cell? ⟨W1.heap.size, j * 3 + i, none⟩ = some v ∧ wr.frozen? ⟨W1.heap.size, j * 3 + i, none⟩ = false := by
  have hlt : j * 3 + i < n * 3 := by omega
  refine ⟨(hs.map hmV).flatten[j * 3 + i]'(by rw [h.own.1]; exact hlt), ?_, h.own.frozenAt _⟩
  rw [h.own.cellAt _ hlt, List.getElem?_eq_getElem]
theorem flat_home (n : Nat) : (List.replicate n [Value.int .i64 0, Value.int .i64 0, Value.int .i64 0]).flatten = ((List.replicate n ((0, 0, 0) : Hm)).map hmV).flatten := by
  rw [List.map_replicate]
  rfl
/-- While one body's nodes get their home: the row of homes, the row of marks. -/
structure HuZ (W1 : World) (n : Nat) (hs : List Hm) (uv : Value) (u : List Bool) (wr : World) : Prop where
  hm : HmZ W1 n hs wr
  und : CellsIn (W1.heap.size + 1) wr uv (u.map Value.bool)
def HuR (W1 : World) (n : Nat) (hs : List Hm) (uv : Value) (u : List Bool) (h : Hm) (jv : Value) (wr : World) : Prop := ∃ j : Nat, j ≤ n ∧ jv = .int .i64 j ∧ Hid (HuZ W1 n (setTo hs u h j) uv u wr)
def HeR (W1 : World) (ns : List Nd) (n i : Nat) (es : List En) (hs : List Hm) (kv : Value) (wr : World) : Prop := ∃ k : Nat, k ≤ es.length ∧ kv = .int .i64 k ∧ Hid (HmZ W1 n (entsTo ns n i es hs k) wr)
def HiR (W1 : World) (ns : List Nd) (n : Nat) (ms : List Mo) (iv : Value) (wr : World) : Prop := ∃ i : Nat, i ≤ ms.length ∧ iv = .int .i64 i ∧ Hid (HmZ W1 n (monsTo ns n ms i) wr)
def HpR (W1 : World) (ns : List Nd) (n : Nat) (ms : List Mo) (ps : List Pr) (iv : Value) (wr : World) : Prop := ∃ i : Nat, i ≤ ps.length ∧ iv = .int .i64 i ∧ Hid (HmZ W1 n (prosTo ns n ms ps i) wr)

set_option maxRecDepth 100000 in
set_option maxHeartbeats 4000000 in
theorem l08Homes_any (nv mv pv : Value) (ns : List Nd) (ms : List Mo) (ps : List Pr) (w : World) (hN : NdsAt w nv ns) (hM : MosAt w mv ms) (hP : PrsAt w pv ps) (hl : ns.length ≤ 1048576) (hml : ms.length ≤ 1048576) (hpl : ps.length ≤ 1048576) (hel : ∀ m ∈ ms, m.ents.length ≤ 1048576)
    (hkx : ∀ x ∈ ns, x.kids.length ≤ 1048576) (hK : ∀ x ∈ ns, ∀ y ∈ x.kids, 0 ≤ y ∧ y < (ns.length : Int)) (hB : ∀ b ∈ bodiesL ms ps, 0 ≤ b ∧ b < (ns.length : Int)) :
    Calls Tryz.prog 29 #[.agg #[nv, mv, pv]] w fun e w' => ∃ v, e = .returned v ∧ w'.ownsRow (w.heap.size + 1) 71 3 v ns.length ((homesL ns ms ps).map hmV).flatten ∧ Below w.heap.size w w' := by
  have hb1 : Below w.heap.size w (w.alloc (.cells #[nv, mv, pv] 33)) := (Below.refl _ _).alloc (Nat.le_refl _) _
  have HN := hide (hN.stays hb1)
  have HM := hide (hM.stays hb1)
  have HP := hide (hP.stays hb1)
  have HX := hide (Boxed.made w nv mv pv 33)
  have HB := hide hb1
  have HS : Hid ((w.alloc (.cells #[nv, mv, pv] 33)).heap.size = w.heap.size + 1) := by show _ = _; simp
  have CU := fun (b : Int) z (h0 : 0 ≤ b ∧ b < (ns.length : Int)) (h : NdsAt z nv ns) => hide (show Calls Tryz.prog 57 #[.agg #[nv, mv, pv], .int .i64 b] z fun e w' => ∃ v, e = .returned v ∧ w'.ownsRow (z.heap.size + 1) 4 1 v ns.length ((undL ns ns.length b.toNat).map Value.bool) ∧ Below z.heap.size z w' from by
    obtain ⟨t, rfl⟩ : ∃ t : Nat, b = (t : Int) := ⟨b.toNat, by omega⟩
    rw [Int.toNat_natCast]
    exact l08Under_any nv mv pv ns t z h (by obtain ⟨a, c, e, _⟩ := hM; exact ⟨_, _, _, e⟩) (by obtain ⟨a, c, e, _⟩ := hP; exact ⟨_, _, _, e⟩) hl (by omega) hkx hK)
  have HBD := hide hB
  have HEL := hide hel
  clear hb1 hkx hK hB hel
  obtain ⟨ao, c, rfl, _⟩ := hN
  obtain ⟨mo, mc, rfl, _⟩ := hM
  obtain ⟨po, pc, rfl, _⟩ := hP
  obtain ⟨n, en⟩ : ∃ n, ns.length = n := ⟨_, rfl⟩
  obtain ⟨nm, em⟩ : ∃ n, ms.length = n := ⟨_, rfl⟩
  obtain ⟨np, ep⟩ : ∃ n, ps.length = n := ⟨_, rfl⟩
  have EN := hide en
  have EM := hide em
  have EP := hide ep
  have EH : Hid (homesL ns ms ps = prosTo ns n ms ps np) := by show _ = _; rw [homesL, en, ep]
  rw [EH.out]
  simp only [en, em, ep] at HN HM HP HX HB HS CU HBD hl hml hpl ⊢
  clear en em ep EH
  obtain ⟨W1, hW⟩ : ∃ W1, w.alloc (.cells #[.slice ao n c, .slice mo nm mc, .slice po np pc] 33) = W1 := ⟨_, rfl⟩
  obtain ⟨i0, hi, hz0, hz1, hz2⟩ := info_parts (Tryz.infoHome)
  obtain ⟨wm, hmk, hown, hgr⟩ := run_make_full (P := Tryz.prog) W1 W1.heap.size 67 71 i0 (.agg #[.int .i64 0, .int .i64 0, .int .i64 0]) 3 Tryz.underlying67 hi hz0 hz1 .i64 .i64 n (by rw [hz2]; omega) (by unfold maxLen; omega) (Nat.le_refl _)
  rw [hW] at HN HM HP HX HB HS
  have OW : Hid (HmZ W1 n (monsTo ns n ms 0) wm) := by
    have e := made_flat [.int .i64 0, .int .i64 0, .int .i64 0] (by decide) n
    simp only [List.length_cons, List.length_nil] at e
    refine ⟨?_, (Below.refl _ _).grown hgr (Nat.le_refl _) (fun k hk => by cases hk), by simp [monsTo]⟩
    rw [monsTo, ← flat_home, ← e]
    exact hown
  rw [HS.out, ← hW] at hmk
  have HWW := hide hW
  clear hown hgr hi hz0 hz1 hz2 hW
  obtain ⟨c0, c1, c2, hlt0⟩ := HX.out.stays OW.out.bel
  go_enter Tryz.func29, Tryz.ntmps29
  go_wp2
  rw [← HS.out]
  clear c0 c1 c2 hlt0 hmk
  go_loopw [4] (fun iv wr => HiR W1 ns n ms iv wr) (fun iv _ => nm - (intOf iv).toNat)
  case atStart => exact ⟨0, by omega, rfl, OW.out⟩
  case round =>
    clear OW
    obtain ⟨i, hi, rfl, HH⟩ := hrel
    rw [EM.out] at hi
    obtain ⟨c0, c1, c2, _⟩ := HX.out.stays HH.out.bel
    by_cases hlt : i < nm
    · have hlt' : (i : Int) < (nm : Int) := by omega
      have hi0 : (0 : Int) ≤ (i : Int) := by omega
      have hix : i < ms.length := by rw [EM.out]; exact hlt
      have hle := HEL.out _ (List.getElem_mem hix)
      have HG : Hid (ms.getD i default = ms[i]) := by show _ = _; rw [List.getD_eq_getElem?_getD, List.getElem?_eq_getElem hix]; rfl
      have HBE : Hid (∀ e ∈ ms[i].ents, 0 ≤ e.body ∧ e.body < (n : Int)) := fun e he => HBD.out _ (List.mem_append_left _ (List.mem_flatMap.2 ⟨_, List.getElem_mem hix, List.mem_map.2 ⟨e, he, rfl⟩⟩))
      obtain ⟨x, ex⟩ : ∃ x, ms[i] = x := ⟨_, rfl⟩
      rw [ex] at hle HG HBE
      obtain ⟨ao', c', e1, hc1⟩ := HM.out
      injection e1 with e2 e3 e4
      subst e2
      obtain ⟨a, vv, qv, ev, rfl, hpb, hx⟩ := hc1 i hix
      obtain ⟨r, hra⟩ : ∃ r, a.add (i * 4) = r := ⟨_, rfl⟩
      rw [← block_add a (i * 4), hra] at hpb
      rw [hra, ex] at hx
      have d3 := hx.c3
      obtain ⟨eo, ec, rfl, hec⟩ := hx.ents
      obtain ⟨ne, ene⟩ : ∃ k, x.ents.length = k := ⟨_, rfl⟩
      have ENE := hide ene
      rw [ene] at hle d3
      have HEC := hide hec
      have D3 : Hid (∀ z, Below W1.heap.size W1 z → z.cell? { block := r.block, off := r.off + 3 } = some (.slice eo ne ec)) := fun z hz => (hz.cell (p := { block := r.block, off := r.off + 3 }) hpb).trans d3
      have HMT : Hid (monsTo ns n ms (i + 1) = entsTo ns n i x.ents (monsTo ns n ms i) ne) := by show _ = _; rw [monsTo, HG.out, ene]
      clear ex ene e3 e4 hc1 hx d3 hec hpb
      go_wp2
      go_loopw [5] (fun kv z => HeR W1 ns n i x.ents (monsTo ns n ms i) kv z) (fun kv _ => ne - (intOf kv).toNat)
      case atStart => exact ⟨0, by omega, rfl, HH.out⟩
      case round =>
        clear HH c0 c1 c2
        obtain ⟨k, hk, rfl, HH⟩ := hrel
        rw [ENE.out] at hk
        obtain ⟨c0, c1, c2, _⟩ := HX.out.stays HH.out.bel
        have d3 := D3.out _ HH.out.bel
        by_cases hltk : k < ne
        · have hltk' : (k : Int) < (ne : Int) := by omega
          have hk0 : (0 : Int) ≤ (k : Int) := by omega
          have hkx : k < x.ents.length := by rw [ENE.out]; exact hltk
          obtain ⟨b, rfl, hbl, hz⟩ := HEC.out k hkx
          obtain ⟨r2, hrb⟩ : ∃ r2, b.add (k * 3) = r2 := ⟨_, rfl⟩
          rw [← block_add b (k * 3), hrb] at hbl
          rw [hrb] at hz
          have hbb := HBE.out _ (List.getElem_mem hkx)
          have HGE : Hid (x.ents.getD k default = x.ents[k]) := by show _ = _; rw [List.getD_eq_getElem?_getD, List.getElem?_eq_getElem hkx]; rfl
          obtain ⟨y, ey⟩ : ∃ y, x.ents[k] = y := ⟨_, rfl⟩
          rw [ey] at hz hbb HGE
          obtain ⟨yb, eyb⟩ : ∃ b, y.body = b := ⟨_, rfl⟩
          have HET : Hid (entsTo ns n i x.ents (monsTo ns n ms i) (k + 1) = setTo (entsTo ns n i x.ents (monsTo ns n ms i) k) (undL ns n yb.toNat) ((-1, (i : Int), (k : Int)) : Hm) n) := by show _ = _; rw [entsTo, HGE.out, eyb]
          have CB := fun z h => CU y.body z hbb h
          have G2 : Hid (∀ z, Below W1.heap.size W1 z → z.cell? { block := r2.block, off := r2.off + 2 } = some (.int .i64 yb)) := fun z hq => (hq.cell (p := { block := r2.block, off := r2.off + 2 }) hbl).trans (by rw [← eyb]; exact hz.c2)
          rw [eyb] at CB
          clear hz ey eyb hbb hbl
          have KC : Hid (∀ z, HmZ W1 n (entsTo ns n i x.ents (monsTo ns n ms i) k) z → (z.cell? ⟨w.heap.size, 0, none⟩ = some (.slice ao n c) ∧ z.cell? ⟨w.heap.size, 1, none⟩ = some (.slice (some a) nm mc) ∧ z.cell? ⟨w.heap.size, 2, none⟩ = some (.slice po np pc) ∧ z.cell? { block := r.block, off := r.off + 3 } = some (.slice (some b) ne ec) ∧ z.cell? { block := r2.block, off := r2.off + 2 } = some (.int .i64 yb) ∧ Hid (HmZ W1 n (entsTo ns n i x.ents (monsTo ns n ms i) k) z))) := fun z hz => by
            obtain ⟨y0, y1, y2, _⟩ := HX.out.stays hz.bel
            exact ⟨y0, y1, y2, D3.out z hz.bel, G2.out z hz.bel, hz⟩
          have KP : Hid (∀ z z', (z.cell? ⟨w.heap.size, 0, none⟩ = some (.slice ao n c) ∧ z.cell? ⟨w.heap.size, 1, none⟩ = some (.slice (some a) nm mc) ∧ z.cell? ⟨w.heap.size, 2, none⟩ = some (.slice po np pc) ∧ z.cell? { block := r.block, off := r.off + 3 } = some (.slice (some b) ne ec) ∧ z.cell? { block := r2.block, off := r2.off + 2 } = some (.int .i64 yb) ∧ Hid (HmZ W1 n (entsTo ns n i x.ents (monsTo ns n ms i) k) z)) → Below z.heap.size z z' → (z'.cell? ⟨w.heap.size, 0, none⟩ = some (.slice ao n c) ∧ z'.cell? ⟨w.heap.size, 1, none⟩ = some (.slice (some a) nm mc) ∧ z'.cell? ⟨w.heap.size, 2, none⟩ = some (.slice po np pc) ∧ z'.cell? { block := r.block, off := r.off + 3 } = some (.slice (some b) ne ec) ∧ z'.cell? { block := r2.block, off := r2.off + 2 } = some (.int .i64 yb) ∧ Hid (HmZ W1 n (entsTo ns n i x.ents (monsTo ns n ms i) k) z'))) := fun z z' hz hb => KC.out _ (hz.2.2.2.2.2.out.stays hb)
          have KN : Hid (∀ z, (z.cell? ⟨w.heap.size, 0, none⟩ = some (.slice ao n c) ∧ z.cell? ⟨w.heap.size, 1, none⟩ = some (.slice (some a) nm mc) ∧ z.cell? ⟨w.heap.size, 2, none⟩ = some (.slice po np pc) ∧ z.cell? { block := r.block, off := r.off + 3 } = some (.slice (some b) ne ec) ∧ z.cell? { block := r2.block, off := r2.off + 2 } = some (.int .i64 yb) ∧ Hid (HmZ W1 n (entsTo ns n i x.ents (monsTo ns n ms i) k) z)) → NdsAt z (.slice ao n c) ns) := fun z hz => HN.out.stays hz.2.2.2.2.2.out.bel
          have KV : Hid (∀ z, (z.cell? ⟨w.heap.size, 0, none⟩ = some (.slice ao n c) ∧ z.cell? ⟨w.heap.size, 1, none⟩ = some (.slice (some a) nm mc) ∧ z.cell? ⟨w.heap.size, 2, none⟩ = some (.slice po np pc) ∧ z.cell? { block := r.block, off := r.off + 3 } = some (.slice (some b) ne ec) ∧ z.cell? { block := r2.block, off := r2.off + 2 } = some (.int .i64 yb) ∧ Hid (HmZ W1 n (entsTo ns n i x.ents (monsTo ns n ms i) k) z)) → HmZ W1 n (entsTo ns n i x.ents (monsTo ns n ms i) k) z) := fun z hz => hz.2.2.2.2.2.out
          have K0 := hide (KC.out _ (HH.out.stays (Below.refl _ _).drew))
          have HSZ : Hid (∀ z, HmZ W1 n (entsTo ns n i x.ents (monsTo ns n ms i) k) z → W1.heap.size + 1 ≤ z.heap.size) := fun z hz => (hz.own.lt _ rfl).2
          go_wp2_with fail
          clear c0 c1 c2 d3 HH
          go_region_held3 (fun z => z.cell? ⟨w.heap.size, 0, none⟩ = some (.slice ao n c) ∧ z.cell? ⟨w.heap.size, 1, none⟩ = some (.slice (some a) nm mc) ∧ z.cell? ⟨w.heap.size, 2, none⟩ = some (.slice po np pc) ∧ z.cell? { block := r.block, off := r.off + 3 } = some (.slice (some b) ne ec) ∧ z.cell? { block := r2.block, off := r2.off + 2 } = some (.int .i64 yb) ∧ Hid (HmZ W1 n (entsTo ns n i x.ents (monsTo ns n ms i) k) z)) (first | exact K0.out | exact KP.out _ _ (by assumption) hb4) ((go_at_call 57; refine (unhide (CB _ (KN.out _ (by assumption)))).mono ?_; rintro e w4 ⟨uv, rfl, ho4, hb4⟩; have HUN := hide (CellsIn.mono (CellsIn.own ho4) (Nat.le_trans (HSZ.out _ (KV.out _ (by assumption))) (Nat.le_succ _))); clear ho4))
          have HV : Hid (HuZ W1 n (setTo (entsTo ns n i x.ents (monsTo ns n ms i) k) (undL ns n yb.toNat) ((-1, (i : Int), (k : Int)) : Hm) 0) uv (undL ns n yb.toNat) w4) := ⟨KV.out _ (by assumption), HUN.out⟩
          clear HUN
          obtain ⟨uo, uc, eu, hur, _⟩ := HV.out.und
          rw [List.length_map, undL_len] at eu
          subst eu
          go_wp2
          go_loopw [7] (fun jv z => HuR W1 n (entsTo ns n i x.ents (monsTo ns n ms i) k) (.slice uo n uc) (undL ns n yb.toNat) ((-1, (i : Int), (k : Int)) : Hm) jv z) (fun jv _ => n - (intOf jv).toNat)
          case atStart => exact ⟨0, by omega, rfl, HV.out⟩
          case round =>
            clear HV
            obtain ⟨j, hj, rfl, HV⟩ := hrel
            by_cases hltj : j < n
            · have hltj' : (j : Int) < (n : Int) := by omega
              have hj0 : (0 : Int) ≤ (j : Int) := by omega
              obtain ⟨ub, euo, _, _, hub⟩ : ∃ a, uo = some a ∧ W1.heap.size + 1 ≤ a.block ∧ a.block < wr.heap.size ∧ wr.cell? (a.add j) = some (.bool ((undL ns n yb.toNat).getD j false)) := by
                obtain ⟨ao', c', e1, _, hc⟩ := HV.out.und
                injection e1 with e2 e3 e4
                subst e2
                exact hc j _ (by rw [List.getElem?_map, List.getD_eq_getElem?_getD, List.getElem?_eq_getElem (by rw [undL_len]; exact hltj)]; rfl)
              subst euo
              cases hq : (undL ns n yb.toNat).getD j false with
              | false =>
                rw [hq] at hub
                have HE : Hid (setTo (entsTo ns n i x.ents (monsTo ns n ms i) k) (undL ns n yb.toNat) ((-1, (i : Int), (k : Int)) : Hm) (j + 1) = setTo (entsTo ns n i x.ents (monsTo ns n ms i) k) (undL ns n yb.toNat) ((-1, (i : Int), (k : Int)) : Hm) j) := by show _ = _; rw [setTo, hq]; rfl
                clear hq
                go_wp2
                go_roundw
                case rel => exact ⟨j + 1, by omega, by go_num, by rw [HE.out]; exact HV.out⟩
                case measure => simp [intOf]; omega
              | true =>
                rw [hq] at hub
                have HE : Hid (setTo (entsTo ns n i x.ents (monsTo ns n ms i) k) (undL ns n yb.toNat) ((-1, (i : Int), (k : Int)) : Hm) (j + 1) = (setTo (entsTo ns n i x.ents (monsTo ns n ms i) k) (undL ns n yb.toNat) ((-1, (i : Int), (k : Int)) : Hm) j).set j ((-1, (i : Int), (k : Int)) : Hm)) := by show _ = _; rw [setTo, hq]; rfl
                have HST := hide (HV.out.hm.step hltj ((-1, (i : Int), (k : Int)) : Hm))
                have HUK := hide (HV.out.und.kept (KeptFrom.setCells (g := W1.heap.size) (Nat.lt_succ_self _) (hmV ((-1, (i : Int), (k : Int)) : Hm)) (j * 3) wr))
                obtain ⟨x0, y0, f0⟩ := HV.out.hm.there hltj 0 (by omega)
                obtain ⟨x1, y1, f1⟩ := HV.out.hm.there hltj 1 (by omega)
                obtain ⟨x2, y2, f2⟩ := HV.out.hm.there hltj 2 (by omega)
                rw [Nat.add_zero] at y0 f0
                have ej : ((3 : Int) * (j : Int)).toNat = j * 3 := by omega
                clear hq
                go_wp2
                go_roundw
                case rel => exact ⟨j + 1, by omega, by go_num, by rw [HE.out]; exact ⟨HST.out, HUK.out⟩⟩
                case measure => simp [intOf]; omega
            · have hltj' : ¬ (j : Int) < (n : Int) := by omega
              have ej : j = n := by omega
              subst ej
              go_wp2
              go_roundw
              case rel => exact ⟨k + 1, by rw [ENE.out]; omega, by go_num, by rw [HET.out]; exact HV.out.hm⟩
              case measure => simp [intOf]; omega
        · have ek : k = ne := by omega
          subst ek
          go_wp2
          go_roundw
          case rel => exact ⟨i + 1, by rw [EM.out]; omega, by go_num, by rw [HMT.out]; exact HH.out⟩
          case measure => simp [intOf]; omega
    · have ei : i = nm := by omega
      subst ei
      have HM0 : Hid (HmZ W1 n (prosTo ns n ms ps 0) wr) := by
        have h := HH.out
        rw [show monsTo ns n ms i = prosTo ns n ms ps 0 by rw [prosTo, EM.out]] at h
        exact h
      go_wp2
      go_loopw [8] (fun kv z => HpR W1 ns n ms ps kv z) (fun kv _ => np - (intOf kv).toNat)
      case atStart => exact ⟨0, by omega, rfl, HM0.out⟩
      case round =>
        clear HH c0 c1 c2 HM0
        obtain ⟨k, hk, rfl, HH⟩ := hrel
        rw [EP.out] at hk
        obtain ⟨c0, c1, c2, _⟩ := HX.out.stays HH.out.bel
        by_cases hltk : k < np
        · have hltk' : (k : Int) < (np : Int) := by omega
          have hk0 : (0 : Int) ≤ (k : Int) := by omega
          have hkx : k < ps.length := by rw [EP.out]; exact hltk
          have hbb := HBD.out _ (List.mem_append_right _ (List.mem_map.2 ⟨_, List.getElem_mem hkx, rfl⟩))
          have HGE : Hid (ps.getD k default = ps[k]) := by show _ = _; rw [List.getD_eq_getElem?_getD, List.getElem?_eq_getElem hkx]; rfl
          obtain ⟨ao', c', e1, hc1⟩ := HP.out
          injection e1 with e2 e3 e4
          subst e2
          obtain ⟨a, uv0, vv0, rfl, hbl, hz⟩ := hc1 k hkx
          obtain ⟨r, hrb⟩ : ∃ r, a.add (k * 4) = r := ⟨_, rfl⟩
          rw [← block_add a (k * 4), hrb] at hbl
          rw [hrb] at hz
          obtain ⟨y, ey⟩ : ∃ y, ps[k] = y := ⟨_, rfl⟩
          rw [ey] at hz hbb HGE
          obtain ⟨yb, eyb⟩ : ∃ b, y.body = b := ⟨_, rfl⟩
          have HET : Hid (prosTo ns n ms ps (k + 1) = setTo (prosTo ns n ms ps k) (undL ns n yb.toNat) (((k : Int), -1, -1) : Hm) n) := by show _ = _; rw [prosTo, HGE.out, eyb]
          have CB := fun z h => CU y.body z hbb h
          have G2 : Hid (∀ z, Below W1.heap.size W1 z → z.cell? { block := r.block, off := r.off + 3 } = some (.int .i64 yb)) := fun z hq => (hq.cell (p := { block := r.block, off := r.off + 3 }) hbl).trans (by rw [← eyb]; exact hz.c3)
          rw [eyb] at CB
          clear hz ey eyb hbb hbl hc1 e3 e4
          have KC : Hid (∀ z, HmZ W1 n (prosTo ns n ms ps k) z → (z.cell? ⟨w.heap.size, 0, none⟩ = some (.slice ao n c) ∧ z.cell? ⟨w.heap.size, 1, none⟩ = some (.slice mo i mc) ∧ z.cell? ⟨w.heap.size, 2, none⟩ = some (.slice (some a) np pc) ∧ z.cell? { block := r.block, off := r.off + 3 } = some (.int .i64 yb) ∧ Hid (HmZ W1 n (prosTo ns n ms ps k) z))) := fun z hz => by
            obtain ⟨y0, y1, y2, _⟩ := HX.out.stays hz.bel
            exact ⟨y0, y1, y2, G2.out z hz.bel, hz⟩
          have KP : Hid (∀ z z', (z.cell? ⟨w.heap.size, 0, none⟩ = some (.slice ao n c) ∧ z.cell? ⟨w.heap.size, 1, none⟩ = some (.slice mo i mc) ∧ z.cell? ⟨w.heap.size, 2, none⟩ = some (.slice (some a) np pc) ∧ z.cell? { block := r.block, off := r.off + 3 } = some (.int .i64 yb) ∧ Hid (HmZ W1 n (prosTo ns n ms ps k) z)) → Below z.heap.size z z' → (z'.cell? ⟨w.heap.size, 0, none⟩ = some (.slice ao n c) ∧ z'.cell? ⟨w.heap.size, 1, none⟩ = some (.slice mo i mc) ∧ z'.cell? ⟨w.heap.size, 2, none⟩ = some (.slice (some a) np pc) ∧ z'.cell? { block := r.block, off := r.off + 3 } = some (.int .i64 yb) ∧ Hid (HmZ W1 n (prosTo ns n ms ps k) z'))) := fun z z' hz hb => KC.out _ (hz.2.2.2.2.out.stays hb)
          have KN : Hid (∀ z, (z.cell? ⟨w.heap.size, 0, none⟩ = some (.slice ao n c) ∧ z.cell? ⟨w.heap.size, 1, none⟩ = some (.slice mo i mc) ∧ z.cell? ⟨w.heap.size, 2, none⟩ = some (.slice (some a) np pc) ∧ z.cell? { block := r.block, off := r.off + 3 } = some (.int .i64 yb) ∧ Hid (HmZ W1 n (prosTo ns n ms ps k) z)) → NdsAt z (.slice ao n c) ns) := fun z hz => HN.out.stays hz.2.2.2.2.out.bel
          have KV : Hid (∀ z, (z.cell? ⟨w.heap.size, 0, none⟩ = some (.slice ao n c) ∧ z.cell? ⟨w.heap.size, 1, none⟩ = some (.slice mo i mc) ∧ z.cell? ⟨w.heap.size, 2, none⟩ = some (.slice (some a) np pc) ∧ z.cell? { block := r.block, off := r.off + 3 } = some (.int .i64 yb) ∧ Hid (HmZ W1 n (prosTo ns n ms ps k) z)) → HmZ W1 n (prosTo ns n ms ps k) z) := fun z hz => hz.2.2.2.2.out
          have K0 := hide (KC.out _ (HH.out.stays (Below.refl _ _).drew))
          have HSZ : Hid (∀ z, HmZ W1 n (prosTo ns n ms ps k) z → W1.heap.size + 1 ≤ z.heap.size) := fun z hz => (hz.own.lt _ rfl).2
          go_wp2_with fail
          clear c0 c1 c2 HH
          go_region_held3 (fun z => z.cell? ⟨w.heap.size, 0, none⟩ = some (.slice ao n c) ∧ z.cell? ⟨w.heap.size, 1, none⟩ = some (.slice mo i mc) ∧ z.cell? ⟨w.heap.size, 2, none⟩ = some (.slice (some a) np pc) ∧ z.cell? { block := r.block, off := r.off + 3 } = some (.int .i64 yb) ∧ Hid (HmZ W1 n (prosTo ns n ms ps k) z)) (first | exact K0.out | exact KP.out _ _ (by assumption) hb4) ((go_at_call 57; refine (unhide (CB _ (KN.out _ (by assumption)))).mono ?_; rintro e w4 ⟨uv, rfl, ho4, hb4⟩; have HUN := hide (CellsIn.mono (CellsIn.own ho4) (Nat.le_trans (HSZ.out _ (KV.out _ (by assumption))) (Nat.le_succ _))); clear ho4))
          have HV : Hid (HuZ W1 n (setTo (prosTo ns n ms ps k) (undL ns n yb.toNat) (((k : Int), -1, -1) : Hm) 0) uv (undL ns n yb.toNat) w4) := ⟨KV.out _ (by assumption), HUN.out⟩
          clear HUN
          obtain ⟨uo, uc, eu, hur, _⟩ := HV.out.und
          rw [List.length_map, undL_len] at eu
          subst eu
          go_wp2
          go_loopw [10] (fun jv z => HuR W1 n (prosTo ns n ms ps k) (.slice uo n uc) (undL ns n yb.toNat) (((k : Int), -1, -1) : Hm) jv z) (fun jv _ => n - (intOf jv).toNat)
          case atStart => exact ⟨0, by omega, rfl, HV.out⟩
          case round =>
            clear HV
            obtain ⟨j, hj, rfl, HV⟩ := hrel
            by_cases hltj : j < n
            · have hltj' : (j : Int) < (n : Int) := by omega
              have hj0 : (0 : Int) ≤ (j : Int) := by omega
              obtain ⟨ub, euo, _, _, hub⟩ : ∃ a, uo = some a ∧ W1.heap.size + 1 ≤ a.block ∧ a.block < wr.heap.size ∧ wr.cell? (a.add j) = some (.bool ((undL ns n yb.toNat).getD j false)) := by
                obtain ⟨ao', c', e1, _, hc⟩ := HV.out.und
                injection e1 with e2 e3 e4
                subst e2
                exact hc j _ (by rw [List.getElem?_map, List.getD_eq_getElem?_getD, List.getElem?_eq_getElem (by rw [undL_len]; exact hltj)]; rfl)
              subst euo
              cases hq : (undL ns n yb.toNat).getD j false with
              | false =>
                rw [hq] at hub
                have HE : Hid (setTo (prosTo ns n ms ps k) (undL ns n yb.toNat) (((k : Int), -1, -1) : Hm) (j + 1) = setTo (prosTo ns n ms ps k) (undL ns n yb.toNat) (((k : Int), -1, -1) : Hm) j) := by show _ = _; rw [setTo, hq]; rfl
                clear hq
                go_wp2
                go_roundw
                case rel => exact ⟨j + 1, by omega, by go_num, by rw [HE.out]; exact HV.out⟩
                case measure => simp [intOf]; omega
              | true =>
                rw [hq] at hub
                have HE : Hid (setTo (prosTo ns n ms ps k) (undL ns n yb.toNat) (((k : Int), -1, -1) : Hm) (j + 1) = (setTo (prosTo ns n ms ps k) (undL ns n yb.toNat) (((k : Int), -1, -1) : Hm) j).set j (((k : Int), -1, -1) : Hm)) := by show _ = _; rw [setTo, hq]; rfl
                have HST := hide (HV.out.hm.step hltj (((k : Int), -1, -1) : Hm))
                have HUK := hide (HV.out.und.kept (KeptFrom.setCells (g := W1.heap.size) (Nat.lt_succ_self _) (hmV (((k : Int), -1, -1) : Hm)) (j * 3) wr))
                obtain ⟨x0, y0, f0⟩ := HV.out.hm.there hltj 0 (by omega)
                obtain ⟨x1, y1, f1⟩ := HV.out.hm.there hltj 1 (by omega)
                obtain ⟨x2, y2, f2⟩ := HV.out.hm.there hltj 2 (by omega)
                rw [Nat.add_zero] at y0 f0
                have ej : ((3 : Int) * (j : Int)).toNat = j * 3 := by omega
                clear hq
                go_wp2
                go_roundw
                case rel => exact ⟨j + 1, by omega, by go_num, by rw [HE.out]; exact ⟨HST.out, HUK.out⟩⟩
                case measure => simp [intOf]; omega
            · have hltj' : ¬ (j : Int) < (n : Int) := by omega
              have ej : j = n := by omega
              subst ej
              go_wp2
              go_roundw
              case rel => exact ⟨k + 1, by rw [EP.out]; omega, by go_num, by rw [HET.out]; exact HV.out.hm⟩
              case measure => simp [intOf]; omega
        · have ek : k = np := by omega
          subst ek
          have HO : Hid (wr.ownsRow (w.heap.size + 1) 71 3 (.slice (some ⟨W1.heap.size, 0, none⟩) n n) n ((prosTo ns n ms ps k).map hmV).flatten) := by
            have h := HH.out.own
            rw [HS.out] at h
            rw [HS.out]
            exact h
          have HBB := hide (HB.out.trans (HH.out.bel.mono (by rw [HS.out]; omega)))
          go_wp2
          go_ret
          exact ⟨_, rfl, HO.out, HBB.out⟩
end Go.Proofs.YtpdpmnkonkpheaaGreat
