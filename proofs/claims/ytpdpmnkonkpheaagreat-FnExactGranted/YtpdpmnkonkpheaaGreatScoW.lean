/-
  What is wrong with the names of a program, by the specification: the walk.
-/
import Derived.Test.YtpdpmnkonkpheaaGreatNodM
import Derived.Test.YtpdpmnkonkpheaaGreatSgP
import Derived.Test.YtpdpmnkonkpheaaGreatNamW
import Derived.Test.YtpdpmnkonkpheaaGreatHomW
import Derived.Deep.RegionHeld3
import Derived.Handy
namespace Go.Proofs.YtpdpmnkonkpheaaGreat
open Go.RowKit

/-- What the walks ask of a program's size. -/
structure PgFit (x : Pg) : Prop where
  len : PgLen x
  nodes : NsIn x.nodes
  mons : ∀ m ∈ x.mons, MoIn m
  pros : ∀ p ∈ x.pros, PrIn p
  kl : (allKids x.nodes).length ≤ 1048576
  bl : (bodiesL x.mons x.pros).length ≤ 1048576
  nm : ∀ m ∈ x.mons, 1 + m.vars.length + m.queues.length ≤ 1048576
structure HmCell (w : World) (a : Addr) (h : Hm) : Prop where
  c0 : w.cell? a = some (.int .i64 h.1)
  c1 : w.cell? { block := a.block, off := a.off + 1 } = some (.int .i64 h.2.1)
  c2 : w.cell? { block := a.block, off := a.off + 2 } = some (.int .i64 h.2.2)
/-- A row of homes that can be read. -/
def HmsAt (w : World) (v : Value) (hs : List Hm) : Prop :=
  ∃ ao c, v = .slice ao hs.length c ∧ ∀ j (_ : j < hs.length), ∃ a, ao = some a ∧ a.block < w.heap.size ∧ HmCell w (a.add (j * 3)) (hs.getD j (0, 0, 0))
theorem HmsAt.stays {w w' : World} {v : Value} {hs : List Hm} (h : HmsAt w v hs) (hb : Below w.heap.size w w') : HmsAt w' v hs := by
  obtain ⟨ao, c, rfl, hc⟩ := h
  refine ⟨ao, c, rfl, fun j hj => ?_⟩
  obtain ⟨a, rfl, ha, h0, h1, h2⟩ := hc j hj
  have hq : (a.add (j * 3)).block < w.heap.size := by rw [block_add]; exact ha
  exact ⟨a, rfl, Nat.lt_of_lt_of_le ha hb.size, (hb.cell hq).trans h0, (hb.cell (p := { block := (a.add (j * 3)).block, off := (a.add (j * 3)).off + 1 }) hq).trans h1, (hb.cell (p := { block := (a.add (j * 3)).block, off := (a.add (j * 3)).off + 2 }) hq).trans h2⟩
theorem flat_hm : ∀ (hs : List Hm) (j i : Nat), j < hs.length → i < 3 → (hs.map hmV).flatten[j * 3 + i]? = (hmV (hs.getD j (0, 0, 0)))[i]?
  | [], j, _, h, _ => absurd h (Nat.not_lt_zero j)
  | h :: hs, 0, i, _, hi => by
    rw [List.map_cons, List.flatten_cons, Nat.zero_mul, Nat.zero_add, List.getElem?_append_left (by exact hi)]
    rfl
  | h :: hs, j + 1, i, hj, hi => by
    rw [List.map_cons, List.flatten_cons, List.getElem?_append_right (by show 3 ≤ _; omega)]
    have e : (j + 1) * 3 + i - (hmV h).length = j * 3 + i := by show (j + 1) * 3 + i - 3 = _; omega
    rw [e, flat_hm hs j i (by simpa using hj) hi]
    simp
theorem HmsAt.own {base : Nat} {w : World} {v : Value} {hs : List Hm} (h : w.ownsRow base 71 3 v hs.length (hs.map hmV).flatten) : HmsAt w v hs := by
  rcases h.2 with ⟨rfl, e⟩ | ⟨g, cap, cur, rfl, hb, hg, hr⟩
  · obtain rfl := List.length_eq_zero_iff.1 e
    exact ⟨none, 0, rfl, fun j hj => absurd hj (Nat.not_lt_zero j)⟩
  · refine ⟨some ⟨g, 0, none⟩, cap, rfl, fun j hj => ⟨⟨g, 0, none⟩, rfl, (h.lt g rfl).2, ?_⟩⟩
    have q : ∀ i, i < 3 → w.cell? ⟨g, j * 3 + i, none⟩ = (hmV (hs.getD j (0, 0, 0)))[i]? := fun i hi => by
      rw [h.cellAt (j * 3 + i) (by omega), flat_hm hs j i hj hi]
    refine ⟨?_, ?_, ?_⟩
    · rw [add_zero_at]
      exact q 0 (by omega)
    · rw [add_zero_at]
      exact q 1 (by omega)
    · rw [add_zero_at]
      exact q 2 (by omega)
/-- While nodes are gone through: the program's box, the program, the homes, what was there. -/
structure ScZ (w : World) (nv mv pv : Value) (x : Pg) (hv : Value) (hs : List Hm) (z : World) : Prop where
  bp : Boxed w.heap.size z nv mv pv
  nds : NdsAt z nv x.nodes
  mos : MosAt z mv x.mons
  prs : PrsAt z pv x.pros
  hms : HmsAt z hv hs
  bel : Below w.heap.size w z
theorem ScZ.stays {w : World} {nv mv pv : Value} {x : Pg} {hv : Value} {hs : List Hm} {z z' : World} (h : ScZ w nv mv pv x hv hs z) (hb : Below z.heap.size z z') : ScZ w nv mv pv x hv hs z' :=
  ⟨h.bp.stays hb, h.nds.stays hb, h.mos.stays hb, h.prs.stays hb, h.hms.stays hb, h.bel.trans (hb.mono h.bel.size)⟩
theorem homesL_len (ns : List Nd) (ms : List Mo) (ps : List Pr) : (homesL ns ms ps).length = ns.length := prosTo_len _ _ _ _ _
def ScR (w : World) (nv mv pv : Value) (x : Pg) (hv : Value) (hs : List Hm) (f : Nat → Int) (kv : Value) (wr : World) : Prop := ∃ k : Nat, k ≤ x.nodes.length ∧ kv = .int .i64 k ∧ Hid (ScZ w nv mv pv x hv hs wr) ∧ Hid (∀ j < k, f j = 0)
theorem listsB_small {ms : List Mo} {ps : List Pr} (h : listsB ms ps = true) : ∀ m ∈ ms, m.vars.length ≤ 3 := fun m hm => by
  unfold listsB at h
  simp only [Bool.and_eq_true] at h
  have h1 := List.all_eq_true.1 h.1.1 m hm
  unfold monB namesB at h1
  simp only [Bool.and_eq_true, decide_eq_true_eq] at h1
  omega

set_option maxRecDepth 100000 in
set_option maxHeartbeats 4000000 in
theorem specScope_any (nv mv pv : Value) (x : Pg) (w : World) (hN : NdsAt w nv x.nodes) (hM : MosAt w mv x.mons) (hP : PrsAt w pv x.pros) (hF : PgFit x) :
    Calls Tryz.prog 12 #[.agg #[nv, mv, pv]] w fun e w' => e = .returned (.int .i64 (specScope x)) ∧ Below w.heap.size w w' := by
  have hb1 : Below w.heap.size w (w.alloc (.cells #[nv, mv, pv] 33)) := (Below.refl _ _).alloc (Nat.le_refl _) _
  have HN := hide (hN.stays hb1)
  have HM := hide (hM.stays hb1)
  have HP := hide (hP.stays hb1)
  have HX := hide (Boxed.made w nv mv pv 33)
  have HB := hide hb1
  have CP := fun z h1 h2 h3 => hide (specProgramOk_any nv mv pv x z h1 h2 h3 hF.len hF.nodes hF.mons hF.pros hF.kl hF.bl)
  have CN := fun z h2 h3 => hide (l08Names_any nv mv pv x.mons x.pros z hN.sl h2 h3 hF.len.ml hF.len.pl hF.mons hF.pros hF.nm)
  obtain ⟨no, nc, rfl, _⟩ := hN
  obtain ⟨mo, mc, rfl, _⟩ := hM
  obtain ⟨po, pc, rfl, _⟩ := hP
  obtain ⟨c0, c1, c2, _⟩ := HX.out
  obtain ⟨R, eR⟩ : ∃ R, specScope x = R := ⟨_, rfl⟩
  have ER := hide eR
  rw [eR]
  clear eR hb1
  cases h1 : specProgB x with
  | false =>
    rw [h1] at CP
    have eR2 : R = 1 := by rw [← ER.out, specScope, if_pos (Or.inl h1)]
    subst eR2
    clear h1
    go_enter Tryz.func12, Tryz.ntmps12
    go_wp2_with (go_at_call 27; refine (unhide (CP _ HN.out HM.out HP.out)).mono ?_; rintro e w1 ⟨rfl, hb2⟩)
    go_ret
    exact ⟨rfl, HB.out.trans (hb2.mono HB.out.size)⟩
  | true =>
    have H1 := hide h1
    rw [h1] at CP
    clear h1
    go_enter Tryz.func12, Tryz.ntmps12
    go_wp2_with fail
    refine (unhide (CP _ HN.out HM.out HP.out)).mono ?_
    rintro e w1 ⟨rfl, hb2⟩
    have HB1 := hide (HB.out.trans (hb2.mono HB.out.size))
    have HX1 := hide (HX.out.stays hb2)
    have HN1 := hide (HN.out.stays hb2)
    have HM1 := hide (HM.out.stays hb2)
    have HP1 := hide (HP.out.stays hb2)
    clear c0 c1 c2 HX HN HM HP HB hb2 CP
    obtain ⟨c0, c1, c2, _⟩ := HX1.out
    have CN1 := CN w1 HM1.out HP1.out
    clear CN
    cases h2 : namB x.mons x.pros with
    | false =>
      rw [h2] at CN1
      have eR2 : R = 1 := by rw [← ER.out, specScope, if_pos (Or.inr h2)]
      subst eR2
      clear h2
      go_wp2_with (go_at_call 28; refine (unhide CN1).mono ?_; rintro e w2 ⟨rfl, hb2⟩)
      go_ret
      exact ⟨rfl, HB1.out.trans (hb2.mono HB1.out.size)⟩
    | true =>
      rw [h2] at CN1
      have HS : Hid (R = firstNZ ((List.range x.nodes.length).map fun k => codeN x.nodes x.mons x.pros k ((homesL x.nodes x.mons x.pros).getD k (0, 0, 0)))) := by
        show _ = _
        rw [← ER.out, specScope, if_neg (by rw [H1.out, h2]; simp)]
      clear h2 ER
      go_wp2_with fail
      refine (unhide CN1).mono ?_
      rintro e w2 ⟨rfl, hb2⟩
      have HB2 := hide (HB1.out.trans (hb2.mono HB1.out.size))
      have HX2 := hide (HX1.out.stays hb2)
      have HN2 := hide (HN1.out.stays hb2)
      have HM2 := hide (HM1.out.stays hb2)
      have HP2 := hide (HP1.out.stays hb2)
      clear c0 c1 c2 HX1 HN1 HM1 HP1 HB1 hb2 CN1
      obtain ⟨c0, c1, c2, _⟩ := HX2.out
      have CH := hide (l08Homes_any (.slice no x.nodes.length nc) (.slice mo x.mons.length mc) (.slice po x.pros.length pc) x.nodes x.mons x.pros w2 HN2.out HM2.out HP2.out hF.len.nl hF.len.ml hF.len.pl (fun m hm => (hF.len.mon m hm).2.2) hF.len.kids (right_kids H1.out) (right_bodies H1.out))
      go_wp2_with fail
      refine (unhide CH).mono ?_
      rintro e w3 ⟨hv, rfl, hown, hb3⟩
      have hms : HmsAt w3 hv (homesL x.nodes x.mons x.pros) := HmsAt.own (by rw [homesL_len]; exact hown)
      have SZ : Hid (ScZ w (.slice no x.nodes.length nc) (.slice mo x.mons.length mc) (.slice po x.pros.length pc) x hv (homesL x.nodes x.mons x.pros) w3) := ⟨HX2.out.stays hb3, HN2.out.stays hb3, HM2.out.stays hb3, HP2.out.stays hb3, hms, HB2.out.trans (hb3.mono HB2.out.size)⟩
      obtain ⟨ho, hc, rfl, _⟩ := hms
      rw [homesL_len] at SZ ⊢
      clear HX2 HN2 HM2 HP2 HB2 hb3 hown c0 c1 c2 CH
      have hsm := listsB_small (by have h := H1.out; unfold specProgB at h; simp only [Bool.and_eq_true] at h; exact h.1.2 : listsB x.mons x.pros = true)
      have CD := fun k z (hk : k < x.nodes.length) h1 h2 h3 => hide (l08Node_home (.slice no x.nodes.length nc) (.slice mo x.mons.length mc) (.slice po x.pros.length pc) x.nodes x.mons x.pros k _ z (right_home H1.out hk) h1 h2 h3 hk hF.len.ml (fun m hm => (hF.len.mon m hm).2.2) (fun m hm => ⟨by have := hsm m hm; omega, (hF.len.mon m hm).2.1⟩) hF.len.pro)
      have EL := hide (homesL_len x.nodes x.mons x.pros)
      clear hsm
      obtain ⟨f, ef⟩ : ∃ f : Nat → Int, f = fun k => codeN x.nodes x.mons x.pros k ((homesL x.nodes x.mons x.pros).getD k (0, 0, 0)) := ⟨_, rfl⟩
      have CF := fun k z (hk : k < x.nodes.length) h1 h2 h3 => hide (show Calls Tryz.prog 30 #[.agg #[.slice no x.nodes.length nc, .slice mo x.mons.length mc, .slice po x.pros.length pc], .int .i64 (k : Int), .agg #[.int .i64 ((homesL x.nodes x.mons x.pros).getD k (0, 0, 0)).1, .int .i64 ((homesL x.nodes x.mons x.pros).getD k (0, 0, 0)).2.1, .int .i64 ((homesL x.nodes x.mons x.pros).getD k (0, 0, 0)).2.2]] z fun e w' => e = .returned (.int .i64 (f k)) ∧ Below z.heap.size z w' from by rw [ef]; exact unhide (CD k z hk h1 h2 h3))
      rw [← ef] at HS
      clear ef CD
      have hnl : x.nodes.length ≤ 1048576 := hF.len.nl
      obtain ⟨n, en⟩ : ∃ n, x.nodes.length = n := ⟨_, rfl⟩
      have EN := hide en
      rw [en] at SZ CF hnl HS EL ⊢
      obtain ⟨c0, _, _, _⟩ := SZ.out.bp
      clear en c0
      go_wp2
      go_loopw [4] (ScR w (.slice no n nc) (.slice mo x.mons.length mc) (.slice po x.pros.length pc) x (.slice ho n hc) (homesL x.nodes x.mons x.pros) f) (fun kv _ => n - (intOf kv).toNat)
      case atStart => exact ⟨0, by omega, rfl, SZ.out, fun j hj => absurd hj (Nat.not_lt_zero j)⟩
      case round =>
        clear SZ
        obtain ⟨k, hk, rfl, SZ, HZ⟩ := hrel
        rw [EN.out] at hk
        obtain ⟨c0, c1, c2, _⟩ := SZ.out.bp
        by_cases hlt : k < n
        · have hlt' : (k : Int) < (n : Int) := by omega
          have hk0 : (0 : Int) ≤ (k : Int) := by omega
          have hkx : k < (homesL x.nodes x.mons x.pros).length := by rw [EL.out]; exact hlt
          obtain ⟨ho', hc', e1, hcc⟩ := SZ.out.hms
          injection e1 with e2 e3 e4
          subst e2
          subst e4
          obtain ⟨a, rfl, _, _⟩ := hcc k hkx
          have CF1 := fun z h1 h2 h3 => CF k z hlt h1 h2 h3
          clear CF hcc e3
          have HZ1 := hide (fun (h0 : f k ≠ 0) => firstNZ_hit (f := f) hlt HZ.out h0)
          have HZ2 := hide (fun (h0 : f k = 0) (j : Nat) (hj : j < k + 1) => (if e : j = k then by rw [e]; exact h0 else HZ.out j (by omega) : f j = 0))
          obtain ⟨r, hra⟩ : ∃ r, a.add (k * 3) = r := ⟨_, rfl⟩
          have HRA := hide hra
          obtain ⟨h, eh⟩ : ∃ h, (homesL x.nodes x.mons x.pros).getD k (0, 0, 0) = h := ⟨_, rfl⟩
          have EH := hide eh
          rw [eh] at CF1
          clear eh
          obtain ⟨q, eq⟩ : ∃ q, f k = q := ⟨_, rfl⟩
          rw [eq] at CF1 HZ1 HZ2
          clear eq
          obtain ⟨h0, h1, h2⟩ := h
          dsimp only at CF1
          by_cases hq : q = 0
          · subst hq
            have GG := hide (HZ2.out rfl)
            go_wp2_with fail
            have KC : Hid (∀ z, ScZ w (.slice no n nc) (.slice mo x.mons.length mc) (.slice po x.pros.length pc) x (.slice (some a) n hc) (homesL x.nodes x.mons x.pros) z → (z.cell? { block := w.heap.size, off := 0 } = some (.slice no n nc) ∧ z.cell? { block := w.heap.size, off := 1 } = some (.slice mo x.mons.length mc) ∧ z.cell? { block := w.heap.size, off := 2 } = some (.slice po x.pros.length pc) ∧ z.cell? r = some (.int .i64 h0) ∧ z.cell? { block := r.block, off := r.off + 1 } = some (.int .i64 h1) ∧ z.cell? { block := r.block, off := r.off + 2 } = some (.int .i64 h2) ∧ Hid (ScZ w (.slice no n nc) (.slice mo x.mons.length mc) (.slice po x.pros.length pc) x (.slice (some a) n hc) (homesL x.nodes x.mons x.pros) z))) := fun z hz => by
              obtain ⟨c0, c1, c2, _⟩ := hz.bp
              obtain ⟨_, _, e5, h5⟩ := hz.hms
              injection e5 with e6 e7 e8
              obtain ⟨a2, e9, _, d0, d1, d2⟩ := h5 k hkx
              rw [← e6] at e9
              injection e9 with e9
              subst e9
              rw [HRA.out, EH.out] at d0 d1 d2
              exact ⟨c0, c1, c2, d0, d1, d2, hz⟩
            have KV : Hid (∀ z, (z.cell? { block := w.heap.size, off := 0 } = some (.slice no n nc) ∧ z.cell? { block := w.heap.size, off := 1 } = some (.slice mo x.mons.length mc) ∧ z.cell? { block := w.heap.size, off := 2 } = some (.slice po x.pros.length pc) ∧ z.cell? r = some (.int .i64 h0) ∧ z.cell? { block := r.block, off := r.off + 1 } = some (.int .i64 h1) ∧ z.cell? { block := r.block, off := r.off + 2 } = some (.int .i64 h2) ∧ Hid (ScZ w (.slice no n nc) (.slice mo x.mons.length mc) (.slice po x.pros.length pc) x (.slice (some a) n hc) (homesL x.nodes x.mons x.pros) z)) → ScZ w (.slice no n nc) (.slice mo x.mons.length mc) (.slice po x.pros.length pc) x (.slice (some a) n hc) (homesL x.nodes x.mons x.pros) z) := fun z hz => hz.2.2.2.2.2.2.out
            have KP : Hid (∀ z z', (z.cell? { block := w.heap.size, off := 0 } = some (.slice no n nc) ∧ z.cell? { block := w.heap.size, off := 1 } = some (.slice mo x.mons.length mc) ∧ z.cell? { block := w.heap.size, off := 2 } = some (.slice po x.pros.length pc) ∧ z.cell? r = some (.int .i64 h0) ∧ z.cell? { block := r.block, off := r.off + 1 } = some (.int .i64 h1) ∧ z.cell? { block := r.block, off := r.off + 2 } = some (.int .i64 h2) ∧ Hid (ScZ w (.slice no n nc) (.slice mo x.mons.length mc) (.slice po x.pros.length pc) x (.slice (some a) n hc) (homesL x.nodes x.mons x.pros) z)) → Below z.heap.size z z' → (z'.cell? { block := w.heap.size, off := 0 } = some (.slice no n nc) ∧ z'.cell? { block := w.heap.size, off := 1 } = some (.slice mo x.mons.length mc) ∧ z'.cell? { block := w.heap.size, off := 2 } = some (.slice po x.pros.length pc) ∧ z'.cell? r = some (.int .i64 h0) ∧ z'.cell? { block := r.block, off := r.off + 1 } = some (.int .i64 h1) ∧ z'.cell? { block := r.block, off := r.off + 2 } = some (.int .i64 h2) ∧ Hid (ScZ w (.slice no n nc) (.slice mo x.mons.length mc) (.slice po x.pros.length pc) x (.slice (some a) n hc) (homesL x.nodes x.mons x.pros) z'))) := fun z z' hz hb => KC.out _ ((KV.out _ hz).stays hb)
            have K0 := hide (KC.out _ (SZ.out.stays (Below.refl _ _).drew))
            clear c0 c1 c2
            go_region_held3 (fun z => z.cell? { block := w.heap.size, off := 0 } = some (.slice no n nc) ∧ z.cell? { block := w.heap.size, off := 1 } = some (.slice mo x.mons.length mc) ∧ z.cell? { block := w.heap.size, off := 2 } = some (.slice po x.pros.length pc) ∧ z.cell? r = some (.int .i64 h0) ∧ z.cell? { block := r.block, off := r.off + 1 } = some (.int .i64 h1) ∧ z.cell? { block := r.block, off := r.off + 2 } = some (.int .i64 h2) ∧ Hid (ScZ w (.slice no n nc) (.slice mo x.mons.length mc) (.slice po x.pros.length pc) x (.slice (some a) n hc) (homesL x.nodes x.mons x.pros) z)) (first | exact K0.out | exact KP.out _ _ (by assumption) hb7) ((go_at_call 30; refine (unhide (CF1 _ (KV.out _ (by assumption)).nds (KV.out _ (by assumption)).mos (KV.out _ (by assumption)).prs)).mono ?_; rintro e w7 ⟨rfl, hb7⟩))
            have D := hide (KV.out w7 (by assumption))
            go_wp2
            go_roundw
            case rel => exact ⟨k + 1, by rw [EN.out]; omega, by go_num, D.out, GG.out⟩
            case measure => simp [intOf]; omega
          · have eR2 : R = q := by rw [HS.out]; exact HZ1.out hq
            subst eR2
            go_wp2_with fail
            have KC : Hid (∀ z, ScZ w (.slice no n nc) (.slice mo x.mons.length mc) (.slice po x.pros.length pc) x (.slice (some a) n hc) (homesL x.nodes x.mons x.pros) z → (z.cell? { block := w.heap.size, off := 0 } = some (.slice no n nc) ∧ z.cell? { block := w.heap.size, off := 1 } = some (.slice mo x.mons.length mc) ∧ z.cell? { block := w.heap.size, off := 2 } = some (.slice po x.pros.length pc) ∧ z.cell? r = some (.int .i64 h0) ∧ z.cell? { block := r.block, off := r.off + 1 } = some (.int .i64 h1) ∧ z.cell? { block := r.block, off := r.off + 2 } = some (.int .i64 h2) ∧ Hid (ScZ w (.slice no n nc) (.slice mo x.mons.length mc) (.slice po x.pros.length pc) x (.slice (some a) n hc) (homesL x.nodes x.mons x.pros) z))) := fun z hz => by
              obtain ⟨c0, c1, c2, _⟩ := hz.bp
              obtain ⟨_, _, e5, h5⟩ := hz.hms
              injection e5 with e6 e7 e8
              obtain ⟨a2, e9, _, d0, d1, d2⟩ := h5 k hkx
              rw [← e6] at e9
              injection e9 with e9
              subst e9
              rw [HRA.out, EH.out] at d0 d1 d2
              exact ⟨c0, c1, c2, d0, d1, d2, hz⟩
            have KV : Hid (∀ z, (z.cell? { block := w.heap.size, off := 0 } = some (.slice no n nc) ∧ z.cell? { block := w.heap.size, off := 1 } = some (.slice mo x.mons.length mc) ∧ z.cell? { block := w.heap.size, off := 2 } = some (.slice po x.pros.length pc) ∧ z.cell? r = some (.int .i64 h0) ∧ z.cell? { block := r.block, off := r.off + 1 } = some (.int .i64 h1) ∧ z.cell? { block := r.block, off := r.off + 2 } = some (.int .i64 h2) ∧ Hid (ScZ w (.slice no n nc) (.slice mo x.mons.length mc) (.slice po x.pros.length pc) x (.slice (some a) n hc) (homesL x.nodes x.mons x.pros) z)) → ScZ w (.slice no n nc) (.slice mo x.mons.length mc) (.slice po x.pros.length pc) x (.slice (some a) n hc) (homesL x.nodes x.mons x.pros) z) := fun z hz => hz.2.2.2.2.2.2.out
            have KP : Hid (∀ z z', (z.cell? { block := w.heap.size, off := 0 } = some (.slice no n nc) ∧ z.cell? { block := w.heap.size, off := 1 } = some (.slice mo x.mons.length mc) ∧ z.cell? { block := w.heap.size, off := 2 } = some (.slice po x.pros.length pc) ∧ z.cell? r = some (.int .i64 h0) ∧ z.cell? { block := r.block, off := r.off + 1 } = some (.int .i64 h1) ∧ z.cell? { block := r.block, off := r.off + 2 } = some (.int .i64 h2) ∧ Hid (ScZ w (.slice no n nc) (.slice mo x.mons.length mc) (.slice po x.pros.length pc) x (.slice (some a) n hc) (homesL x.nodes x.mons x.pros) z)) → Below z.heap.size z z' → (z'.cell? { block := w.heap.size, off := 0 } = some (.slice no n nc) ∧ z'.cell? { block := w.heap.size, off := 1 } = some (.slice mo x.mons.length mc) ∧ z'.cell? { block := w.heap.size, off := 2 } = some (.slice po x.pros.length pc) ∧ z'.cell? r = some (.int .i64 h0) ∧ z'.cell? { block := r.block, off := r.off + 1 } = some (.int .i64 h1) ∧ z'.cell? { block := r.block, off := r.off + 2 } = some (.int .i64 h2) ∧ Hid (ScZ w (.slice no n nc) (.slice mo x.mons.length mc) (.slice po x.pros.length pc) x (.slice (some a) n hc) (homesL x.nodes x.mons x.pros) z'))) := fun z z' hz hb => KC.out _ ((KV.out _ hz).stays hb)
            have K0 := hide (KC.out _ (SZ.out.stays (Below.refl _ _).drew))
            clear c0 c1 c2
            go_region_held3 (fun z => z.cell? { block := w.heap.size, off := 0 } = some (.slice no n nc) ∧ z.cell? { block := w.heap.size, off := 1 } = some (.slice mo x.mons.length mc) ∧ z.cell? { block := w.heap.size, off := 2 } = some (.slice po x.pros.length pc) ∧ z.cell? r = some (.int .i64 h0) ∧ z.cell? { block := r.block, off := r.off + 1 } = some (.int .i64 h1) ∧ z.cell? { block := r.block, off := r.off + 2 } = some (.int .i64 h2) ∧ Hid (ScZ w (.slice no n nc) (.slice mo x.mons.length mc) (.slice po x.pros.length pc) x (.slice (some a) n hc) (homesL x.nodes x.mons x.pros) z)) (first | exact K0.out | exact KP.out _ _ (by assumption) hb7) ((go_at_call 30; refine (unhide (CF1 _ (KV.out _ (by assumption)).nds (KV.out _ (by assumption)).mos (KV.out _ (by assumption)).prs)).mono ?_; rintro e w7 ⟨rfl, hb7⟩))
            all_goals go_wp2
            all_goals go_ret
            all_goals exact ⟨rfl, (KV.out _ (by assumption)).bel⟩
        · have hlt' : ¬ (k : Int) < (n : Int) := by omega
          have eR2 : R = 0 := by rw [HS.out]; exact firstNZ_none fun j hj => HZ.out j (by omega)
          subst eR2
          go_wp2
          go_ret
          exact ⟨rfl, SZ.out.bel⟩
end Go.Proofs.YtpdpmnkonkpheaaGreat
