/-
  Walks of the program: what is wrong with the names of a program.
-/
import Derived.Test.YtpdpmnkonkpheaaGreatImvB
import Derived.Test.YtpdpmnkonkpheaaGreatImvC
import Derived.Test.YtpdpmnkonkpheaaGreatImpS
import Derived.Test.YtpdpmnkonkpheaaGreatScoW
import Derived.Test.YtpdpmnkonkpheaaGreatPureP
namespace Go.Proofs.YtpdpmnkonkpheaaGreat
open Go.RowKit

/-- Codes behind the first so many monitors, and behind the first so many processes. -/
def codM (ns : List Nd) (cs : List Int) (ms : List Mo) : List Int := ms.foldl (fun cs m => judM ns m cs m.ents) cs
def codP (ns : List Nd) (ms : List Mo) (cs : List Int) (ps : List Pr) : List Int := ps.foldl (fun cs p => putAll (codeAt (scoP ms p) ns) cs (plTo (undI ns p.body.toNat) (p.body.toNat + 1))) cs
theorem codM_snoc (ns : List Nd) (cs : List Int) (ms : List Mo) (m : Mo) : codM ns cs (ms ++ [m]) = judM ns m (codM ns cs ms) m.ents := by simp [codM]
theorem codP_snoc (ns : List Nd) (ms : List Mo) (cs : List Int) (ps : List Pr) (p : Pr) : codP ns ms cs (ps ++ [p]) = putAll (codeAt (scoP ms p) ns) (codP ns ms cs ps) (plTo (undI ns p.body.toNat) (p.body.toNat + 1)) := by simp [codP]
noncomputable def implScope (x : Pg) : Int :=
  if implProgB x = false ∨ namI x.mons x.pros = false ∨ usesB x.mons x.pros = false then 1
  else firstNZ (codP x.nodes x.mons (codM x.nodes (List.replicate x.nodes.length 0) x.mons) x.pros)
/-- While bodies are judged. -/
structure SoZ (w w1 : World) (nv mv pv : Value) (x : Pg) (cs : List Int) (z : World) : Prop where
  bp : Box z w.heap.size #[nv, mv, pv] 33
  cods : CodesAt z w1.heap.size x.nodes.length cs
  bel : Below w1.heap.size w1 z
theorem SoZ.stays {w w1 : World} {nv mv pv : Value} {x : Pg} {cs : List Int} {z z' : World} (h : SoZ w w1 nv mv pv x cs z) (hb : Below z.heap.size z z') : SoZ w w1 nv mv pv x cs z' := ⟨h.bp.stays hb, h.cods.stays hb, h.bel.trans (hb.mono h.bel.size)⟩
theorem SoZ.cells {w w1 : World} {nv mv pv : Value} {x : Pg} {cs : List Int} {z : World} (h : SoZ w w1 nv mv pv x cs z) : z.cell? { block := w.heap.size, off := 0 } = some nv ∧ z.cell? { block := w.heap.size, off := 1 } = some mv ∧ z.cell? { block := w.heap.size, off := 2 } = some pv := ⟨Lib.cell_of_heap h.bp 0, Lib.cell_of_heap h.bp 1, Lib.cell_of_heap h.bp 2⟩
/-- .. beside the box of a process. -/
def SoY (w w1 : World) (nv mv pv : Value) (x : Pg) (gp : Nat) (c : Array Value) (z : World) : Prop := (∃ cs, SoZ w w1 nv mv pv x cs z) ∧ Box z gp c 49
theorem SoY.stays {w w1 : World} {nv mv pv : Value} {x : Pg} {gp : Nat} {c : Array Value} {z z' : World} (h : SoY w w1 nv mv pv x gp c z) (hb : Below z.heap.size z z') : SoY w w1 nv mv pv x gp c z' := by
  obtain ⟨⟨cs, h1⟩, h2⟩ := h
  exact ⟨⟨cs, h1.stays hb⟩, h2.stays hb⟩
theorem SoZ.judged {w w1 : World} {nv mv pv : Value} {x : Pg} {cs cs' : List Int} {z z' : World} (h : SoZ w w1 nv mv pv x cs z) (hw : w.heap.size < w1.heap.size) (hc : CodesAt z' w1.heap.size x.nodes.length cs') (hb : But w1.heap.size z z') : SoZ w w1 nv mv pv x cs' z' := ⟨h.bp.but hb (by omega), hc, h.bel.trans hb.bel⟩
def SoM (w w1 : World) (nv mv pv : Value) (x : Pg) (iv : Value) (wr : World) : Prop := ∃ i : Nat, i ≤ x.mons.length ∧ iv = .int .i64 i ∧ Hid (SoZ w w1 nv mv pv x (codM x.nodes (List.replicate x.nodes.length 0) (x.mons.take i)) wr)
def SoP (w w1 : World) (nv mv pv : Value) (x : Pg) (CM : List Int) (iv : Value) (wr : World) : Prop := ∃ i : Nat, i ≤ x.pros.length ∧ iv = .int .i64 i ∧ Hid (SoZ w w1 nv mv pv x (codP x.nodes x.mons CM (x.pros.take i)) wr)
def SoC (W : World) (cs : List Int) (iv : Value) (wr : World) : Prop := ∃ i : Nat, i ≤ cs.length ∧ iv = .int .i64 i ∧ wr = W ∧ Hid (∀ j < i, cs.getD j 0 = 0)
theorem firstNZ_at {cs : List Int} {i : Nat} (hi : i < cs.length) (h0 : ∀ j < i, cs.getD j 0 = 0) (h1 : cs.getD i 0 ≠ 0) : firstNZ cs = cs.getD i 0 := by
  have e : cs = (List.range cs.length).map fun j => cs.getD j 0 := by
    refine List.ext_getElem (by simp) fun j hj _ => ?_
    rw [List.getElem_map, List.getElem_range, List.getD_eq_getElem?_getD, List.getElem?_eq_getElem hj]
    rfl
  rw [e]
  have := firstNZ_hit (f := fun j => cs.getD j 0) hi h0 h1
  rw [this, ← e]
theorem firstNZ_all {cs : List Int} (h0 : ∀ j < cs.length, cs.getD j 0 = 0) : firstNZ cs = 0 :=
  firstNZ_zero fun c hc => by
    obtain ⟨j, hj, rfl⟩ := List.getElem_of_mem hc
    have := h0 j hj
    rwa [List.getD_eq_getElem?_getD, List.getElem?_eq_getElem hj] at this

theorem scopeP_any (nv mv pv uv vv : Value) (ms : List Mo) (p : Pr) (w : World) (hN : SlV nv) (hM : MosAt w mv ms) (hP : SlV pv) (hU : StrsAt w uv p.uses) (hV : StrsAt w vv p.vars) (hml : ms.length ≤ 1048576) (hmi : ∀ m ∈ ms, MoIn m) (hpi : PrIn p) (hb : useB ms p = true) :
    Calls Tryz.prog 42 #[.agg #[nv, mv, pv], .agg #[.string p.name, uv, vv, .int .i64 p.body]] w fun e w' => ∃ m1 m2 m3, e = .returned (.agg #[.bool false, .map m1, .map m2, .map m3]) ∧ ScAt w' (.map m1) (.map m2) (.map m3) (scoP ms p) ∧ Below w.heap.size w w' := by
  refine (scopeOfProcess_any nv mv pv uv vv ms p w hN hM hP hU hV hml hmi hpi hb).mono ?_
  rintro e w' ⟨va, qa, ea, rfl, hs, hb⟩
  obtain ⟨m1, rfl⟩ := hs.vars.is
  obtain ⟨m2, rfl⟩ := hs.queues.is
  obtain ⟨m3, rfl⟩ := hs.ents.is
  exact ⟨_, _, _, rfl, hs, hb⟩
theorem flat_ints (n : Nat) : (List.replicate n [Value.int .i64 0]).flatten = (List.replicate n (0 : Int)).map I64 := by
  induction n with
  | zero => rfl
  | succ m ih => rw [List.replicate_succ, List.flatten_cons, ih]; rfl
theorem mem_body {ms : List Mo} {ps : List Pr} {m : Mo} {e : En} (hm : m ∈ ms) (he : e ∈ m.ents) : e.body ∈ bodiesL ms ps :=
  List.mem_append.2 (.inl (List.mem_flatMap.2 ⟨m, hm, List.mem_map.2 ⟨e, he, rfl⟩⟩))
theorem mem_bodyP {ms : List Mo} {ps : List Pr} {p : Pr} (hp : p ∈ ps) : p.body ∈ bodiesL ms ps :=
  List.mem_append.2 (.inr (List.mem_map.2 ⟨p, hp, rfl⟩))
theorem mons_ok {ms : List Mo} {ps : List Pr} (h : namI ms ps = true) {m : Mo} {e : En} (hm : m ∈ ms) (he : e ∈ m.ents) : entOkB m e = true := by
  unfold namI at h
  simp only [Bool.and_eq_true] at h
  have h1 := List.all_eq_true.1 h.1 m hm
  unfold monOkB at h1
  rw [Bool.and_eq_true] at h1
  exact List.all_eq_true.1 h1.1 e he
theorem treeOk_of {x : Pg} (h : implProgB x = true) (hF : PgFit x) : TreeOk x.nodes := by
  have hs : specProgB x = true := by rw [prog_eq]; exact h
  exact ⟨hF.len.nl, hF.len.kids, hF.nodes, fun j hj => deep_right (right_parts hs).1 hj, right_low hs⟩
theorem bodyOk_of {x : Pg} (h : implProgB x = true) : ∀ b ∈ bodiesL x.mons x.pros, BodyOk x.nodes b := fun b hb => by
  have hs : specProgB x = true := by rw [prog_eq]; exact h
  have h1 := right_bodies hs b hb
  refine ⟨h1.1, h1.2, ?_⟩
  have hk : b.toNat < x.nodes.length := by omega
  have h2 := List.all_eq_true.1 (right_parts hs).1 _ (List.getElem_mem (show b.toNat < (deepsTo x.nodes x.nodes.length).length by rw [deepsTo_len]; exact hk))
  have h3 : (deepsTo x.nodes x.nodes.length).getD b.toNat 0 = (deepsTo x.nodes x.nodes.length)[b.toNat]'(by rw [deepsTo_len]; exact hk) := by
    simp [List.getD_eq_getElem?_getD, List.getElem?_eq_getElem (show b.toNat < (deepsTo x.nodes x.nodes.length).length by rw [deepsTo_len]; exact hk)]
  rw [← h3, deepsTo_at x.nodes _ hk] at h2
  rw [deepsTo_at x.nodes _ (Nat.lt_succ_self _)]
  have := (inZ_yes.1 h2).1
  omega

set_option maxRecDepth 100000 in
set_option maxHeartbeats 4000000 in
theorem implScope_any (nv mv pv : Value) (x : Pg) (w : World) (hN : NdsAt w nv x.nodes) (hM : MosAt w mv x.mons) (hP : PrsAt w pv x.pros) (hR : NdsRoom w nv x.nodes.length) (hF : PgFit x) :
    Calls Tryz.prog 18 #[.agg #[nv, mv, pv]] w fun e w' => e = .returned (.int .i64 (implScope x)) ∧ Below w.heap.size w w' := by
  have hb1 : Below w.heap.size w (w.alloc (.cells #[nv, mv, pv] 33)) := (Below.refl _ _).alloc (Nat.le_refl _) _
  have HN := hide hN
  have HM := hide hM
  have HP := hide hP
  have HR := hide hR
  have BX := hide (Box.made w #[nv, mv, pv] 33)
  have HB := hide hb1
  have HF := hide hF
  have C1 := fun z (h : Below w.heap.size w z) => hide (implProgramOk_any nv mv pv x z (hN.stays h) (hM.stays h) (hP.stays h) (hR.stays h) hF.len hF.nodes hF.mons hF.pros hF.kl hF.bl)
  have C2 := fun z (h : Below w.heap.size w z) => hide (namesUnlike_any nv mv pv x.mons x.pros z hN.sl (hM.stays h) (hP.stays h) hF.len.ml hF.len.pl hF.mons hF.pros hF.nm)
  have C3 := fun z (h : Below w.heap.size w z) => hide (usesMonitors_any nv mv pv x.mons x.pros z hN.sl (hM.stays h) (hP.stays h) hF.len.ml hF.len.pl (fun p hp => (hF.len.pro p hp).1))
  have hMs : SlV mv := by obtain ⟨a, c, e, _⟩ := hM; exact ⟨_, _, _, e⟩
  have CJ := fun (vv qv ev : Value) (m : Mo) (cs : List Int) (w1 z : World) (g : Nat) (h1 : NdsAt w1 nv x.nodes) h2 h3 h4 h5 h6 h7 h8 h9 h10 h11 h12 => hide (judgeMonitor_any nv mv pv vv qv ev x.nodes m g cs w1 z h1 hMs hP.sl h2 h3 h4 h5 h6 h7 h8 h9 h10 h11 h12)
  have CS := fun (uv vv : Value) (p : Pr) z (h : Below w.heap.size w z) h1 h2 h3 h4 => hide (scopeP_any nv mv pv uv vv x.mons p z hN.sl (hM.stays h) hP.sl h1 h2 hF.len.ml hF.mons h3 h4)
  have CB := fun (va qa ea : Value) (s : Sco) (k g : Nat) (cs : List Int) (w1 z : World) (h1 : NdsAt w1 nv x.nodes) h2 h3 h4 h5 h6 h7 h8 h9 h10 h11 h12 h13 => hide (judgeBody_any nv mv pv va qa ea x.nodes s k g cs w1 z h1 hMs hP.sl h2 h3 h4 h5 h6 h7 h8 h9 h10 h11 h12 h13)
  obtain ⟨no, nc, rfl, _⟩ := hN
  obtain ⟨mo, mc, rfl, _⟩ := hM
  obtain ⟨po, pc, rfl, _⟩ := hP
  clear hb1 hR
  obtain ⟨R, eR⟩ : ∃ R, implScope x = R := ⟨_, rfl⟩
  have ER := hide eR
  rw [eR]
  clear eR hMs
  cases h1 : implProgB x with
  | false =>
    rw [h1] at C1
    have eR2 : R = 1 := by rw [← ER.out, implScope, if_pos (Or.inl h1)]
    subst eR2
    clear h1 CJ CS CB
    go_enter Tryz.func18, Tryz.ntmps18
    go_wp2_with (go_at_call 37; refine (unhide (C1 _ HB.out)).mono ?_; rintro e w1 ⟨rfl, hb2⟩)
    go_ret
    exact ⟨rfl, HB.out.trans (hb2.mono HB.out.size)⟩
  | true =>
    have H1 := hide h1
    rw [h1] at C1
    clear h1
    go_enter Tryz.func18, Tryz.ntmps18
    go_wp2_with fail
    refine (unhide (C1 _ HB.out)).mono ?_
    rintro e z1 ⟨rfl, hb1⟩
    have HB1 := hide (HB.out.trans (hb1.mono HB.out.size))
    have BX1 := hide (BX.out.stays hb1)
    clear hb1 HB BX C1
    have q0 := Lib.cell_of_heap BX1.out 0
    have q1 := Lib.cell_of_heap BX1.out 1
    have q2 := Lib.cell_of_heap BX1.out 2
    simp only [List.getElem?_toArray, List.getElem?_cons_succ, List.getElem?_cons_zero] at q0 q1 q2
    cases h2 : namI x.mons x.pros with
    | false =>
      rw [h2] at C2
      have eR2 : R = 1 := by rw [← ER.out, implScope, if_pos (Or.inr (Or.inl h2))]
      subst eR2
      clear h2 CJ CS CB
      go_wp2_with (go_at_call 38; refine (unhide (C2 _ HB1.out)).mono ?_; rintro e w2 ⟨rfl, hb2⟩)
      go_ret
      exact ⟨rfl, HB1.out.trans (hb2.mono HB1.out.size)⟩
    | true =>
      have H2 := hide h2
      rw [h2] at C2
      clear h2
      go_wp2_with fail
      refine (unhide (C2 _ HB1.out)).mono ?_
      rintro e z2 ⟨rfl, hb1⟩
      have HB2 := hide (HB1.out.trans (hb1.mono HB1.out.size))
      have BX2 := hide (BX1.out.stays hb1)
      clear hb1 HB1 BX1 C2 q0 q1 q2
      have q0 := Lib.cell_of_heap BX2.out 0
      have q1 := Lib.cell_of_heap BX2.out 1
      have q2 := Lib.cell_of_heap BX2.out 2
      simp only [List.getElem?_toArray, List.getElem?_cons_succ, List.getElem?_cons_zero] at q0 q1 q2
      cases h3 : usesB x.mons x.pros with
      | false =>
        rw [h3] at C3
        have eR2 : R = 1 := by rw [← ER.out, implScope, if_pos (Or.inr (Or.inr h3))]
        subst eR2
        clear h3 CJ CS CB
        go_wp2_with (go_at_call 39; refine (unhide (C3 _ HB2.out)).mono ?_; rintro e w2 ⟨rfl, hb2⟩)
        go_ret
        exact ⟨rfl, HB2.out.trans (hb2.mono HB2.out.size)⟩
      | true =>
        have H3 := hide h3
        have HRR : Hid (R = firstNZ (codP x.nodes x.mons (codM x.nodes (List.replicate x.nodes.length 0) x.mons) x.pros)) := by
          show _ = _
          rw [← ER.out, implScope, if_neg (by rw [H1.out, H2.out, h3]; simp)]
        rw [h3] at C3
        clear h3 ER
        go_wp2_with fail
        refine (unhide (C3 _ HB2.out)).mono ?_
        rintro e W1 ⟨rfl, hb1⟩
        have HB3 := hide (HB2.out.trans (hb1.mono HB2.out.size))
        have BX3 := hide (BX2.out.stays hb1)
        clear hb1 HB2 BX2 C3 q0 q1 q2
        have q0 := Lib.cell_of_heap BX3.out 0
        have q1 := Lib.cell_of_heap BX3.out 1
        have q2 := Lib.cell_of_heap BX3.out 2
        simp only [List.getElem?_toArray, List.getElem?_cons_succ, List.getElem?_cons_zero] at q0 q1 q2
        have hnl := HF.out.len.nl
        have hml := HF.out.len.ml
        have hpl := HF.out.len.pl
        have HTO : Hid (TreeOk x.nodes) := treeOk_of H1.out HF.out
        have HBO : Hid (∀ b ∈ bodiesL x.mons x.pros, BodyOk x.nodes b) := bodyOk_of H1.out
        obtain ⟨n, en⟩ : ∃ n, x.nodes.length = n := ⟨_, rfl⟩
        have EN := hide en
        obtain ⟨i0, hi, hz0, hz1, hz2⟩ := info_parts (Tryz.infoInt)
        obtain ⟨wm, hmk, hown, hgr⟩ := run_make_full (P := Tryz.prog) W1 W1.heap.size 41 3 i0 (.int .i64 0) 1 Tryz.underlying41 hi hz0 hz1 .i64 .i64 n (by rw [hz2]; omega) (by unfold maxLen; omega) (Nat.le_refl _)
        have hbm : Below W1.heap.size W1 wm := (Below.refl _ _).grown hgr (Nat.le_refl _) (fun k hk => by cases hk)
        have Z0 : Hid (SoZ w W1 (.slice no n nc) (.slice mo x.mons.length mc) (.slice po x.pros.length pc) x (List.replicate n 0) wm) := by
          have e := made_flat [.int .i64 0] (by decide) n
          simp only [List.length_singleton] at e
          refine ⟨?_, ⟨?_, by simp [en]⟩, hbm⟩
          · rw [← en]
            exact BX3.out.stays hbm
          · rw [en, ← flat_ints n, ← e]
            exact hown
        rw [en] at hnl
        clear hown hgr hi hz0 hz1 hz2 hbm
        rw [en] at BX3 q0
        rw [en]
        clear en
        obtain ⟨c0, c1, c2⟩ := SoZ.cells Z0.out
        have HW0 : Hid (w.heap.size < W1.heap.size) := BX3.out.lt
        have HNW := hide (HN.out.stays HB3.out)
        have HRW := hide (HR.out.stays HB3.out)
        have HMW := hide (HM.out.stays HB3.out)
        have HPW := hide (HP.out.stays HB3.out)
        rw [EN.out] at HNW HRW
        simp only [EN.out] at CJ CS CB
        obtain ⟨q, eq⟩ : ∃ q, x.mons.length = q := ⟨_, rfl⟩
        have EQ := hide eq
        obtain ⟨t, et⟩ : ∃ t, x.pros.length = t := ⟨_, rfl⟩
        have ET := hide et
        simp only [eq, et] at CJ CS CB
        rw [eq] at HMW hml
        rw [et] at HPW hpl
        rw [eq, et] at Z0 BX3 ⊢
        rw [eq] at c1 q1
        rw [et] at c2 q2
        clear eq et
        go_wp2
        clear c0 c1 c2 q0 q1 q2 hmk
        go_loopw [30] (SoM w W1 (.slice no n nc) (.slice mo q mc) (.slice po t pc) x) (fun iv _ => q - (intOf iv).toNat)
        case atStart => exact ⟨0, by omega, rfl, by rw [EN.out]; exact Z0.out⟩
        case round =>
          clear Z0
          obtain ⟨i, hi, rfl, Z⟩ := hrel
          rw [EQ.out] at hi
          by_cases hlt : i < q
          · have hlt' : (i : Int) < (q : Int) := by omega
            have hi0 : (0 : Int) ≤ (i : Int) := by omega
            have hix : i < x.mons.length := by rw [EQ.out]; exact hlt
            have HMI := hide (HF.out.mons _ (List.getElem_mem hix))
            have HBD : Hid (∀ e ∈ x.mons[i].ents, BodyOk x.nodes e.body) := fun e he => HBO.out _ (mem_body (List.getElem_mem hix) he)
            have HUD : Hid (∀ e ∈ x.mons[i].ents, entOkB x.mons[i] e = true) := fun e he => mons_ok H2.out (List.getElem_mem hix) he
            have HT : Hid (codM x.nodes (List.replicate x.nodes.length 0) (x.mons.take (i + 1)) = judM x.nodes x.mons[i] (codM x.nodes (List.replicate x.nodes.length 0) (x.mons.take i)) x.mons[i].ents) := by
              show _ = _
              rw [List.take_succ_eq_append_getElem hix, codM_snoc]
            obtain ⟨mo', mc', e5, hmc⟩ := HMW.out
            injection e5 with e6 e7 e8
            subst e6
            obtain ⟨ma, v1, v2, v3, rfl, hmb, hmx⟩ := hmc i hix
            obtain ⟨r, hra⟩ : ∃ r, ma.add (i * 4) = r := ⟨_, rfl⟩
            rw [← block_add ma (i * 4), hra] at hmb
            rw [hra] at hmx
            obtain ⟨y, ey⟩ : ∃ y, x.mons[i] = y := ⟨_, rfl⟩
            rw [ey] at hmx HMI HT
            simp only [ey] at HBD HUD
            obtain ⟨cs2, ecs⟩ : ∃ cs2, codM x.nodes (List.replicate x.nodes.length 0) (x.mons.take i) = cs2 := ⟨_, rfl⟩
            rw [ecs] at Z HT
            have HV1 := hide hmx.vars
            have HV2 := hide hmx.queues
            have HV3 := hide hmx.ents
            obtain ⟨d0, d1, d2, d3, _, _, _⟩ := hmx.stays Z.out.bel hmb
            obtain ⟨o1, k1, rfl, _⟩ := hmx.vars
            obtain ⟨o2, k2, rfl, _⟩ := hmx.queues
            obtain ⟨o3, k3, rfl, _⟩ := hmx.ents
            clear hmx hmc e7 e8 ecs
            have b1 := (Below.refl wr.heap.size wr).alloc (Nat.le_refl _) (.cells #[.string y.name, .slice o1 y.vars.length k1, .slice o2 y.queues.length k2, .slice o3 y.ents.length k3] 76)
            have Z1 := hide (Z.out.stays b1)
            have CJ1 := CJ (.slice o1 y.vars.length k1) (.slice o2 y.queues.length k2) (.slice o3 y.ents.length k3) y cs2 W1 _ W1.heap.size HNW.out HRW.out HV1.out HV2.out HV3.out Z1.out.bel (Nat.le_refl _) (by have h := Z1.out.cods; rw [EN.out] at h; exact h) HTO.out HMI.out HBD.out HUD.out
            rw [← HT.out] at CJ1
            obtain ⟨c0, c1, c2⟩ := SoZ.cells Z1.out
            clear b1 Z
            go_wp2_with fail
            refine (unhide CJ1).mono ?_
            rintro e w5 ⟨rfl, hc5, hb5⟩
            have Z5 := hide (Z1.out.judged HW0.out (by rw [EN.out]; exact hc5) hb5)
            clear hc5 hb5 c0 c1 c2 d0 d1 d2 d3 CJ1 Z1
            go_wp2
            go_roundw
            case rel => exact ⟨i + 1, by rw [EQ.out]; omega, by go_num, Z5.out⟩
            case measure => simp [intOf]; omega
          · have hlt' : ¬ (i : Int) < (q : Int) := by omega
            have e9 : x.mons.take i = x.mons := List.take_of_length_le (by rw [EQ.out]; omega)
            rw [e9] at Z
            obtain ⟨CM0, ecm⟩ : ∃ CM0, codM x.nodes (List.replicate x.nodes.length 0) x.mons = CM0 := ⟨_, rfl⟩
            rw [ecm] at Z HRR
            obtain ⟨c0, c1, c2⟩ := SoZ.cells Z.out
            clear e9 CJ ecm
            go_wp2
            clear c0 c1 c2
            go_loopw [42] (SoP w W1 (.slice no n nc) (.slice mo q mc) (.slice po t pc) x CM0) (fun iv _ => t - (intOf iv).toNat)
            case atStart => exact ⟨0, by omega, rfl, Z.out⟩
            case round =>
              clear Z
              obtain ⟨i, hi, rfl, Z⟩ := hrel
              rw [ET.out] at hi
              by_cases hlt : i < t
              · have hlt' : (i : Int) < (t : Int) := by omega
                have hi0 : (0 : Int) ≤ (i : Int) := by omega
                have hix : i < x.pros.length := by rw [ET.out]; exact hlt
                have HPI := hide (HF.out.pros _ (List.getElem_mem hix))
                have HBD := hide (HBO.out _ (mem_bodyP (List.getElem_mem hix)))
                have HUD : Hid (useB x.mons x.pros[i] = true) := List.all_eq_true.1 H3.out _ (List.getElem_mem hix)
                have HT : Hid (codP x.nodes x.mons CM0 (x.pros.take (i + 1)) = putAll (codeAt (scoP x.mons x.pros[i]) x.nodes) (codP x.nodes x.mons CM0 (x.pros.take i)) (plTo (undI x.nodes x.pros[i].body.toNat) (x.pros[i].body.toNat + 1))) := by
                  show _ = _
                  rw [List.take_succ_eq_append_getElem hix, codP_snoc]
                obtain ⟨po', pc', e5, hpc⟩ := HPW.out
                injection e5 with e6 e7 e8
                subst e6
                obtain ⟨pa, v1, v2, rfl, hpb, hpx⟩ := hpc i hix
                obtain ⟨r, hra⟩ : ∃ r, pa.add (i * 4) = r := ⟨_, rfl⟩
                rw [← block_add pa (i * 4), hra] at hpb
                rw [hra] at hpx
                obtain ⟨y, ey⟩ : ∃ y, x.pros[i] = y := ⟨_, rfl⟩
                rw [ey] at hpx HPI HT HBD HUD
                obtain ⟨cs2, ecs⟩ : ∃ cs2, codP x.nodes x.mons CM0 (x.pros.take i) = cs2 := ⟨_, rfl⟩
                rw [ecs] at Z HT
                have HV1 := hide hpx.uses
                have HV2 := hide hpx.vars
                obtain ⟨d0, d1, d2, d3, _, _⟩ := hpx.stays Z.out.bel hpb
                obtain ⟨o1, k1, rfl, _⟩ := hpx.uses
                obtain ⟨o2, k2, rfl, _⟩ := hpx.vars
                clear hpx hpc e7 e8 ecs ey
                obtain ⟨bd, ebd⟩ : ∃ bd : Nat, y.body = (bd : Int) := ⟨y.body.toNat, by have := HBD.out.lo; omega⟩
                have HBN : Hid (bd < n) := by have := HBD.out.hi; rw [ebd, EN.out] at this; show _ < _; omega
                have HBP : Hid ((deepsTo x.nodes (bd + 1)).getD bd 0 ≠ 0) := by have := HBD.out.deep; rw [ebd, Int.toNat_natCast] at this; exact this
                rw [ebd, Int.toNat_natCast] at HT
                have CS1 := fun z h h1 h2 => CS (.slice o1 y.uses.length k1) (.slice o2 y.vars.length k2) y z h h1 h2 HPI.out HUD.out
                have CB1 := fun va qa ea z h1 h2 h3 => CB va qa ea (scoP x.mons y) bd W1.heap.size cs2 W1 z HNW.out HRW.out h1 (Nat.le_refl _) h2 h3 HBN.out hnl HTO.out.kids HTO.out.ins (fun j hj => HTO.out.all j (by rw [EN.out]; exact hj)) HTO.out.low HBP.out
                have ESI : Hid ((scoP x.mons y).inE = false) := rfl
                rw [ESI.out] at CB1
                rw [ebd] at CS1 d3
                have bb := (Below.refl wr.heap.size wr).alloc (Nat.le_refl _) (.cells #[.string y.name, .slice o1 y.uses.length k1, .slice o2 y.vars.length k2, .int .i64 (bd : Int)] 49)
                have Z1 := hide (Z.out.stays bb)
                have BP1 := hide (Box.made wr #[.string y.name, .slice o1 y.uses.length k1, .slice o2 y.vars.length k2, .int .i64 (bd : Int)] 49)
                clear bb Z HBD
                have OW : Hid (∀ z, SoZ w W1 (.slice no n nc) (.slice mo q mc) (.slice (some pa) t pc) x cs2 z → Below w.heap.size w z) := fun z hz => HB3.out.trans (hz.bel.mono HB3.out.size)
                have SU : Hid (∀ z, SoZ w W1 (.slice no n nc) (.slice mo q mc) (.slice (some pa) t pc) x cs2 z → StrsAt z (.slice o1 y.uses.length k1) y.uses) := fun z hz => HV1.out.stays hz.bel
                have SV : Hid (∀ z, SoZ w W1 (.slice no n nc) (.slice mo q mc) (.slice (some pa) t pc) x cs2 z → StrsAt z (.slice o2 y.vars.length k2) y.vars) := fun z hz => HV2.out.stays hz.bel
                have SB : Hid (∀ z, SoZ w W1 (.slice no n nc) (.slice mo q mc) (.slice (some pa) t pc) x cs2 z → Below W1.heap.size W1 z) := fun z hz => hz.bel
                have CDS : Hid (∀ z, SoZ w W1 (.slice no n nc) (.slice mo q mc) (.slice (some pa) t pc) x cs2 z → CodesAt z W1.heap.size n cs2) := fun z hz => by have h := hz.cods; rw [EN.out] at h; exact h
                have JD : Hid (∀ z z', SoZ w W1 (.slice no n nc) (.slice mo q mc) (.slice (some pa) t pc) x cs2 z → CodesAt z' W1.heap.size n (putAll (codeAt (scoP x.mons y) x.nodes) cs2 (plTo (undI x.nodes bd) (bd + 1))) → But W1.heap.size z z' → SoZ w W1 (.slice no n nc) (.slice mo q mc) (.slice (some pa) t pc) x (codP x.nodes x.mons CM0 (x.pros.take (i + 1))) z') := fun z z' hz hc hb => by
                  rw [HT.out]
                  exact hz.judged HW0.out (by rw [EN.out]; exact hc) hb
                obtain ⟨c0, c1, c2⟩ := SoZ.cells Z1.out
                have b0 := Lib.cell_of_heap BP1.out 0
                have b1 := Lib.cell_of_heap BP1.out 1
                have b2 := Lib.cell_of_heap BP1.out 2
                have b3 := Lib.cell_of_heap BP1.out 3
                simp only [List.getElem?_toArray, List.getElem?_cons_succ, List.getElem?_cons_zero] at b0 b1 b2 b3
                go_wp2_with fail
                obtain ⟨W5, hW5⟩ : ∃ W5, wr.alloc (.cells #[.string y.name, .slice o1 y.uses.length k1, .slice o2 y.vars.length k2, .int .i64 (bd : Int)] 49) = W5 := ⟨_, rfl⟩
                rw [hW5] at Z1 BP1 c0 c1 c2 b0 b1 b2 b3 ⊢
                obtain ⟨gp, egp⟩ : ∃ gp, wr.heap.size = gp := ⟨_, rfl⟩
                rw [egp] at BP1 b0 b1 b2 b3 ⊢
                clear hW5 egp d0 d1 d2 d3 CS CB
                have K00 := hide (Z1.out.stays (Below.refl _ _).drew)
                have GNE : Hid (gp ≠ W1.heap.size) := Z1.out.cods.nobox BP1.out (by decide)
                clear c0 c1 c2 b0 b1 b2 b3
                have BP0 := hide (BP1.out.stays (Below.refl _ _).drew)
                have KC : Hid (∀ z, SoY w W1 (.slice no n nc) (.slice mo q mc) (.slice (some pa) t pc) x gp #[.string y.name, .slice o1 y.uses.length k1, .slice o2 y.vars.length k2, .int .i64 (bd : Int)] z → (z.cell? { block := w.heap.size, off := 0 } = some (.slice no n nc) ∧ z.cell? { block := w.heap.size, off := 1 } = some (.slice mo q mc) ∧ z.cell? { block := w.heap.size, off := 2 } = some (.slice (some pa) t pc) ∧ z.cell? { block := gp, off := 0 } = some (.string y.name) ∧ z.cell? { block := gp, off := 1 } = some (.slice o1 y.uses.length k1) ∧ z.cell? { block := gp, off := 2 } = some (.slice o2 y.vars.length k2) ∧ z.cell? { block := gp, off := 3 } = some (.int .i64 (bd : Int)) ∧ Hid (SoY w W1 (.slice no n nc) (.slice mo q mc) (.slice (some pa) t pc) x gp #[.string y.name, .slice o1 y.uses.length k1, .slice o2 y.vars.length k2, .int .i64 (bd : Int)] z))) := fun z hz => by
                  have hy := hz
                  obtain ⟨⟨cs3, h3⟩, hb⟩ := hz
                  obtain ⟨c0, c1, c2⟩ := h3.cells
                  have b0 := Lib.cell_of_heap hb 0
                  have b1 := Lib.cell_of_heap hb 1
                  have b2 := Lib.cell_of_heap hb 2
                  have b3 := Lib.cell_of_heap hb 3
                  simp only [List.getElem?_toArray, List.getElem?_cons_succ, List.getElem?_cons_zero] at b0 b1 b2 b3
                  exact ⟨c0, c1, c2, b0, b1, b2, b3, hy⟩
                have KV : Hid (∀ z, (z.cell? { block := w.heap.size, off := 0 } = some (.slice no n nc) ∧ z.cell? { block := w.heap.size, off := 1 } = some (.slice mo q mc) ∧ z.cell? { block := w.heap.size, off := 2 } = some (.slice (some pa) t pc) ∧ z.cell? { block := gp, off := 0 } = some (.string y.name) ∧ z.cell? { block := gp, off := 1 } = some (.slice o1 y.uses.length k1) ∧ z.cell? { block := gp, off := 2 } = some (.slice o2 y.vars.length k2) ∧ z.cell? { block := gp, off := 3 } = some (.int .i64 (bd : Int)) ∧ Hid (SoY w W1 (.slice no n nc) (.slice mo q mc) (.slice (some pa) t pc) x gp #[.string y.name, .slice o1 y.uses.length k1, .slice o2 y.vars.length k2, .int .i64 (bd : Int)] z)) → SoY w W1 (.slice no n nc) (.slice mo q mc) (.slice (some pa) t pc) x gp #[.string y.name, .slice o1 y.uses.length k1, .slice o2 y.vars.length k2, .int .i64 (bd : Int)] z) := fun z hz => hz.2.2.2.2.2.2.2.out
                have KP : Hid (∀ z z', (z.cell? { block := w.heap.size, off := 0 } = some (.slice no n nc) ∧ z.cell? { block := w.heap.size, off := 1 } = some (.slice mo q mc) ∧ z.cell? { block := w.heap.size, off := 2 } = some (.slice (some pa) t pc) ∧ z.cell? { block := gp, off := 0 } = some (.string y.name) ∧ z.cell? { block := gp, off := 1 } = some (.slice o1 y.uses.length k1) ∧ z.cell? { block := gp, off := 2 } = some (.slice o2 y.vars.length k2) ∧ z.cell? { block := gp, off := 3 } = some (.int .i64 (bd : Int)) ∧ Hid (SoY w W1 (.slice no n nc) (.slice mo q mc) (.slice (some pa) t pc) x gp #[.string y.name, .slice o1 y.uses.length k1, .slice o2 y.vars.length k2, .int .i64 (bd : Int)] z)) → Below z.heap.size z z' → (z'.cell? { block := w.heap.size, off := 0 } = some (.slice no n nc) ∧ z'.cell? { block := w.heap.size, off := 1 } = some (.slice mo q mc) ∧ z'.cell? { block := w.heap.size, off := 2 } = some (.slice (some pa) t pc) ∧ z'.cell? { block := gp, off := 0 } = some (.string y.name) ∧ z'.cell? { block := gp, off := 1 } = some (.slice o1 y.uses.length k1) ∧ z'.cell? { block := gp, off := 2 } = some (.slice o2 y.vars.length k2) ∧ z'.cell? { block := gp, off := 3 } = some (.int .i64 (bd : Int)) ∧ Hid (SoY w W1 (.slice no n nc) (.slice mo q mc) (.slice (some pa) t pc) x gp #[.string y.name, .slice o1 y.uses.length k1, .slice o2 y.vars.length k2, .int .i64 (bd : Int)] z'))) := fun z z' hz hb => KC.out _ ((KV.out _ hz).stays hb)
                have K0 := hide (KC.out _ ⟨⟨_, K00.out⟩, BP0.out⟩)
                go_region_held3 (fun z => z.cell? { block := w.heap.size, off := 0 } = some (.slice no n nc) ∧ z.cell? { block := w.heap.size, off := 1 } = some (.slice mo q mc) ∧ z.cell? { block := w.heap.size, off := 2 } = some (.slice (some pa) t pc) ∧ z.cell? { block := gp, off := 0 } = some (.string y.name) ∧ z.cell? { block := gp, off := 1 } = some (.slice o1 y.uses.length k1) ∧ z.cell? { block := gp, off := 2 } = some (.slice o2 y.vars.length k2) ∧ z.cell? { block := gp, off := 3 } = some (.int .i64 (bd : Int)) ∧ Hid (SoY w W1 (.slice no n nc) (.slice mo q mc) (.slice (some pa) t pc) x gp #[.string y.name, .slice o1 y.uses.length k1, .slice o2 y.vars.length k2, .int .i64 (bd : Int)] z)) (first | exact K0.out | assumption) ((first
                  | (go_at_call 42; refine (unhide (CS1 _ (OW.out _ K00.out) (SU.out _ K00.out) (SV.out _ K00.out))).mono ?_; rintro e w7 ⟨m1, m2, m3, rfl, hs7, hb7⟩; have K7 := hide (K00.out.stays hb7); have SC7 := hide hs7; have KX := KC.out _ ⟨⟨_, K7.out⟩, BP0.out.stays hb7⟩; clear hs7)
                  | (go_at_call 41; refine (unhide (CB1 _ _ _ _ (SB.out _ K7.out) SC7.out (CDS.out _ K7.out))).mono ?_; rintro e w8 ⟨rfl, hc8, hb8⟩; have K8 := hide (JD.out _ _ K7.out hc8 hb8); have KX := KC.out _ ⟨⟨_, K8.out⟩, (BP0.out.stays hb7).but hb8 GNE.out⟩; clear hc8 hb8)))
                all_goals go_wp2
                all_goals go_roundw
                all_goals (have LE : i + 1 ≤ x.pros.length := by rw [ET.out]; omega)
                all_goals first
                  | (simp [intOf]; omega)
                  | exact ⟨i + 1, LE, by go_num, K8.out⟩
                  | ((repeat apply Exists.intro); exact ⟨⟨i + 1, LE, by go_num, K8.out⟩, rfl⟩)
              · have hlt' : ¬ (i : Int) < (t : Int) := by omega
                have e9 : x.pros.take i = x.pros := List.take_of_length_le (by rw [ET.out]; omega)
                rw [e9] at Z
                obtain ⟨cz, ecz⟩ : ∃ cz, codP x.nodes x.mons CM0 x.pros = cz := ⟨_, rfl⟩
                rw [ecz] at Z HRR
                have HCD : Hid (CodesAt wr W1.heap.size n cz) := by have h := Z.out.cods; rw [EN.out] at h; exact h
                have HCL : Hid (cz.length = n) := HCD.out.len
                have HBF : Hid (Below w.heap.size w wr) := HB3.out.trans (Z.out.bel.mono HB3.out.size)
                clear e9 ecz CS CB
                obtain ⟨W9, e9⟩ : ∃ W9, W9 = wr := ⟨_, rfl⟩
                subst e9
                go_wp2
                go_loopw [57] (SoC W9 cz) (fun iv _ => n - (intOf iv).toNat)
                case atStart => exact ⟨0, by omega, rfl, rfl, fun j hj => absurd hj (Nat.not_lt_zero j)⟩
                case round =>
                  obtain ⟨i, hi, rfl, ew, HZ⟩ := hrel
                  subst ew
                  rw [HCL.out] at hi
                  by_cases hlt : i < n
                  · have hlt' : (i : Int) < (n : Int) := by omega
                    have hi0 : (0 : Int) ≤ (i : Int) := by omega
                    obtain ⟨r0, _⟩ := HCD.out.cell hlt
                    have HZ1 := hide (fun h0 => firstNZ_at (cs := cz) (by rw [HCL.out]; exact hlt) HZ.out h0)
                    have HZ2 := hide (fun (h0 : cz.getD i 0 = 0) (j : Nat) (hj : j < i + 1) => (if e : j = i then by rw [e]; exact h0 else HZ.out j (by omega) : cz.getD j 0 = 0))
                    obtain ⟨c, ec⟩ : ∃ c, cz.getD i 0 = c := ⟨_, rfl⟩
                    rw [ec] at r0 HZ1 HZ2
                    clear ec
                    by_cases hc : c = 0
                    · subst hc
                      have GG := hide (HZ2.out rfl)
                      go_wp2
                      go_roundw
                      case rel => exact ⟨i + 1, by rw [HCL.out]; omega, by go_num, rfl, GG.out⟩
                      case measure => simp [intOf]; omega
                    · have eR2 : R = c := by rw [HRR.out]; exact HZ1.out hc
                      subst eR2
                      have hc' : (R == 0) = false := by simpa using hc
                      go_wp2
                      go_ret
                      exact ⟨rfl, HBF.out⟩
                  · have hlt' : ¬ (i : Int) < (n : Int) := by omega
                    have eR2 : R = 0 := by rw [HRR.out]; exact firstNZ_all fun j hj => HZ.out j (by rw [HCL.out] at hj; omega)
                    subst eR2
                    go_wp2
                    go_ret
                    exact ⟨rfl, HBF.out⟩
end Go.Proofs.YtpdpmnkonkpheaaGreat
