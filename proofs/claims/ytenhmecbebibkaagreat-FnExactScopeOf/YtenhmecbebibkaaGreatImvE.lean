/-
  Walks of the program: whether all that is declared side by side is unlike.
-/
import Derived.Test.YtenhmecbebibkaaGreatImvC
import Derived.Test.YtenhmecbebibkaaGreatImvA
import Derived.Maps.AppendAt
import Derived.Test.YtenhmecbebibkaaGreatChecked
import Derived.Test.YtenhmecbebibkaaGreatUndW
import Derived.BigQuiet
import Derived.WalkSmall
import Derived.Test.YtenhmecbebibkaaGreatScoV
import Derived.Test.YtenhmecbebibkaaGreatLawT
namespace Go.Proofs.YtenhmecbebibkaaGreat
open Go.RowKit

noncomputable def proNoB (p : Pr) : Bool := unlikeB p.uses && unlikeB p.vars
noncomputable def namI (ms : List Mo) (ps : List Pr) : Bool := ms.all monOkB && (ps.all proNoB && (unlikeB (ms.map Mo.name) && unlikeB (ps.map Pr.name)))
theorem namI_mon {ms : List Mo} {ps : List Pr} {i : Nat} (hi : i < ms.length) (h : monOkB ms[i] = false) : namI ms ps = false := by
  unfold namI
  rw [allB_no hi h]
  rfl
theorem namI_pro {ms : List Mo} {ps : List Pr} {i : Nat} (hi : i < ps.length) (h : proNoB ps[i] = false) : namI ms ps = false := by
  unfold namI
  rw [allB_no hi h, Bool.false_and, Bool.and_false]
theorem namI_of {ms : List Mo} {ps : List Pr} (hm : ∀ i (hi : i < ms.length), monOkB ms[i] = true) (hp : ∀ i (hi : i < ps.length), proNoB ps[i] = true) : namI ms ps = (unlikeB (ms.map Mo.name) && unlikeB (ps.map Pr.name)) := by
  unfold namI
  rw [allB_yes hm, allB_yes hp]
  rfl
theorem namB_turn (ms : List Mo) (ps : List Pr) : namB ms ps = (namI ms ps && usesB ms ps) := by
  have h : ps.all (proOkB ms) = (ps.all (useB ms) && ps.all proNoB) := by
    induction ps with
    | nil => rfl
    | cons p ps ih =>
      rw [List.all_cons, List.all_cons, List.all_cons, ih]
      have e : proOkB ms p = (useB ms p && proNoB p) := rfl
      rw [e]
      cases useB ms p <;> cases proNoB p <;> cases ps.all (useB ms) <;> cases ps.all proNoB <;> rfl
  unfold namB namI usesB
  rw [h]
  cases ms.all monOkB <;> cases ps.all (useB ms) <;> cases ps.all proNoB <;> cases (unlikeB (ms.map Mo.name) && unlikeB (ps.map Pr.name)) <;> rfl

/-- Two rows of texts that are owned, in different blocks. -/
structure R2 (B : Nat) (v1 : Value) (L1 : List ByteArray) (v2 : Value) (L2 : List ByteArray) (w : World) : Prop where
  o1 : OwnS B v1 L1 w
  o2 : OwnS B v2 L2 w
  ne : v1.ownBlock ≠ v2.ownBlock
theorem R2.symm {B : Nat} {v1 v2 : Value} {L1 L2 : List ByteArray} {w : World} (h : R2 B v1 L1 v2 L2 w) : R2 B v2 L2 v1 L1 w := ⟨h.o2, h.o1, Ne.symm h.ne⟩
theorem R2.stays {B : Nat} {v1 v2 : Value} {L1 L2 : List ByteArray} {w w' : World} (h : R2 B v1 L1 v2 L2 w) (hb : Below w.heap.size w w') : R2 B v1 L1 v2 L2 w' := ⟨ownS_stays h.o1 hb, ownS_stays h.o2 hb, h.ne⟩
theorem ownS_kept {B : Nat} {v : Value} {L : List ByteArray} {w w' : World} {row : Option Nat} (h : OwnS B v L w) (hg : w.grownBy w' row) (hne : v.ownBlock = none ∨ v.ownBlock ≠ row) : OwnS B v L w' := by
  have hlt := h.lt
  obtain ⟨h1, h2⟩ := h
  refine ⟨h1, ?_⟩
  rcases h2 with h2 | ⟨g, cap, cur, rfl, hb1, hg1, r⟩
  · exact .inl h2
  · refine .inr ⟨g, cap, cur, rfl, hb1, ?_, r⟩
    rw [hg.block g (hlt g rfl).2 (hne.resolve_left (by intro e; cases e))]
    exact hg1
theorem wpList_app_r2 {w : World} {ops : Array Oper} {rest : List Oper} {o : Oper} {a : Act} {Q : Exit → Act → World → Prop} {kb : Nat} (hkb : kb = w.heap.size) (hgd : o.guard = none) (sl x : Operand)
    (ho : o.op = .call { callee := .builtin .append, args := #[sl, x], argTypes := #[51, 51] })
    {B : Nat} {v1 v2 : Value} {L1 L2 : List ByteArray} {k : ByteArray} (h : R2 B v1 L1 v2 L2 w) (hs : a.eval sl = v1) (hx : a.eval x = .slice (some ⟨kb, 0, none⟩) 1 1) (hB : B ≤ w.heap.size) (hn : L1.length ≤ 2000000)
    (hK : ∀ v' w', R2 B v' (L1 ++ [k]) v2 L2 w' → Below B w w' → BoxesKept 9 w w' → wpList Tryz.prog ops Q rest (a.put o.dst v') w') : wpList Tryz.prog ops Q (o :: rest) a (w.alloc (.cells #[.string k] 9)) := by
  subst hkb
  obtain ⟨i, hi, hz0, hz1, hz2⟩ := info_parts Tryz.infoStr
  have hA : Below w.heap.size w (w.alloc (.cells #[.string k] 9)) := (Below.refl _ _).alloc (Nat.le_refl _) _
  have hR := h.stays hA
  have hsz : (w.alloc (.cells #[.string k] 9)).heap.size = w.heap.size + 1 := by simp
  refine wpList_append_own_at _ hgd sl x 51 ho B 9 i (.string ⟨#[]⟩) 1 16 Tryz.underlying51 hi hz0 hz1 hz2 rfl (by decide) v1 _ _ hs hR.o1 ⟨w.heap.size, 0, none⟩ 1 1 [.string k] hx rfl (fun j u hj => ?_) (by intro u hu; simp at hu; subst hu; rfl) (by unfold maxLen; omega) (by omega) (by omega) ?_
  · rw [add_zero_at, World.cell?_alloc_new]
    simpa using hj
  · intro v' w' hown hgr _ hob
    have hb2 := (Below.refl B (w.alloc (.cells #[.string k] 9))).grown hgr (by omega) (fun j hj => (hR.o1.lt j hj).1)
    refine hK v' w' ⟨OwnS.more (k := [k]) hown, ownS_kept hR.o2 hgr (.inr (Ne.symm hR.ne)), ?_⟩ ((((Below.refl B w).alloc hB _)).trans hb2) (fun g' cs T hT hbx => boxes_grown hR.o1 hgr g' cs T hT ((Below.heap_alloc w _ g' hbx.lt).trans hbx))
    rcases hob with e | e
    · rw [e]; exact hR.ne
    · rw [e]
      intro e2
      have := (h.o2.lt _ e2.symm).2
      omega
def NeR (W0 : World) (n : Nat) (L : Nat → List ByteArray) (v2 : Value) (L2 : List ByteArray) (G : Nat → Prop) (v iv : Value) (wr : World) : Prop :=
  ∃ i : Nat, i ≤ n ∧ iv = .int .i64 i ∧ Hid (R2 W0.heap.size v (L i) v2 L2 wr) ∧ Hid (Below W0.heap.size W0 wr) ∧ Hid (∀ j, j < i → G j)

set_option maxRecDepth 100000 in
set_option maxHeartbeats 4000000 in
theorem namesUnlike_any (nv mv pv : Value) (ms : List Mo) (ps : List Pr) (w : World) (hN : SlV nv) (hM : MosAt w mv ms) (hP : PrsAt w pv ps) (hml : ms.length ≤ 1048576) (hpl : ps.length ≤ 1048576) (hmi : ∀ m ∈ ms, MoIn m) (hpi : ∀ p ∈ ps, PrIn p) (hT : ∀ m ∈ ms, 1 + m.vars.length + m.queues.length ≤ 1048576) :
    Calls Tryz.prog 20 #[.agg #[nv, mv, pv]] w fun e w' => e = .returned (.bool (namI ms ps)) ∧ Below w.heap.size w w' := by
  have hb1 : Below w.heap.size w (w.alloc (.cells #[nv, mv, pv] 33)) := (Below.refl _ _).alloc (Nat.le_refl _) _
  have HM := hide (hM.stays hb1)
  have HP := hide (hP.stays hb1)
  have HX := hide (Boxed.made w nv mv pv 33)
  have HB := hide hb1
  have HS : Hid ((w.alloc (.cells #[nv, mv, pv] 33)).heap.size = w.heap.size + 1) := by show _ = _; simp
  have HMI := hide hmi
  have HPI := hide hpi
  have HT := hide hT
  have CU := fun v xs z h hl hs => hide (implUnlike_any v xs z h hl hs)
  have CM := fun vv qv ev m z h1 h2 h3 hI hT => hide (monUnlike_any vv qv ev m z h1 h2 h3 hI hT)
  clear hb1 hmi hpi hT
  obtain ⟨ao, c, rfl, _⟩ := hM
  obtain ⟨bo, d, rfl, _⟩ := hP
  obtain ⟨on, nn, cn, rfl⟩ := hN
  obtain ⟨R, eR⟩ : ∃ R, namI ms ps = R := ⟨_, rfl⟩
  have ER := hide eR
  rw [eR]
  clear eR
  go_enter Tryz.func20, Tryz.ntmps20
  go_wp2
  obtain ⟨W0, hW0⟩ : ∃ W0, w.alloc (.cells #[.slice on nn cn, .slice ao ms.length c, .slice bo ps.length d] 33) = W0 := ⟨_, rfl⟩
  rw [hW0] at HM HP HX HB HS ⊢
  clear hW0
  have O0 := hide (ownsRow_empty W0 W0.heap.size 9 (Nat.le_refl _))
  have B0 : Hid (Below W0.heap.size W0 (W0.alloc (.cells #[] 9))) := (Below.refl _ _).alloc (Nat.le_refl _) _
  have O1 := hide (ownsRow_empty (W0.alloc (.cells #[] 9)) W0.heap.size 9 B0.out.size)
  have O0' := hide (O0.out.alloc (.cells #[] 9))
  have B1 : Hid (Below W0.heap.size W0 ((W0.alloc (.cells #[] 9)).alloc (.cells #[] 9))) := B0.out.alloc B0.out.size _
  obtain ⟨n, en⟩ : ∃ n, ms.length = n := ⟨_, rfl⟩
  have EN := hide en
  obtain ⟨q, eq⟩ : ∃ q, ps.length = q := ⟨_, rfl⟩
  have EQ := hide eq
  rw [en] at HM hml
  rw [eq] at HP hpl
  rw [en, eq] at HX ⊢
  clear en eq
  have R0 : Hid (R2 W0.heap.size (.slice (some ⟨W0.heap.size, 0, none⟩) 0 0) [] (.slice (some ⟨W0.heap.size + 1, 0, none⟩) 0 0) [] ((W0.alloc (.cells #[] 9)).alloc (.cells #[] 9))) := by
    refine ⟨O0'.out, ?_, ?_⟩
    · have := O1.out
      have e : (W0.alloc (.cells #[] 9)).heap.size = W0.heap.size + 1 := by simp
      rw [e] at this
      exact this
    · intro e
      injection e with e
      simp at e
  rw [HS.out] at R0
  clear O0 O1 O0' B0
  go_loopw [3, 14] (NeR W0 n (fun i => (ms.take i).map Mo.name) (.slice (some ⟨w.heap.size + 1 + 1, 0, none⟩) 0 0) [] (fun j => ∀ h : j < ms.length, monOkB ms[j] = true)) (fun _ iv _ => n - (intOf iv).toNat)
  case atStart => exact ⟨0, by omega, rfl, by rw [HS.out]; exact R0.out, B1.out, fun j hj => absurd hj (Nat.not_lt_zero j)⟩
  case round =>
    clear R0 B1
    obtain ⟨i, hi, rfl, HO, HB2, HG⟩ := hrel
    dsimp only at HO
    obtain ⟨c0, c1, c2, _⟩ := HX.out.stays HB2.out
    by_cases hlt : i < n
    · have hlt' : (i : Int) < (n : Int) := by omega
      have hi0 : (0 : Int) ≤ (i : Int) := by omega
      have hix : i < ms.length := by rw [EN.out]; exact hlt
      have HEL := hide (HMI.out _ (List.getElem_mem hix))
      have HEM := hide (HT.out _ (List.getElem_mem hix))
      have HNX : Hid ((ms.take (i + 1)).map Mo.name = (ms.take i).map Mo.name ++ [ms[i].name]) := by show _ = _; rw [List.take_succ_eq_append_getElem hix, List.map_append]; rfl
      have HLL : Hid (((ms.take i).map Mo.name).length ≤ 1048576) := by show _ ≤ _; rw [List.length_map, List.length_take, EN.out]; omega
      have HBAD : Hid (monOkB ms[i] = false → R = false) := fun h => by rw [← ER.out]; exact namI_mon hix h
      obtain ⟨ao', cc, e5, hc⟩ := HM.out
      injection e5 with e6 e7 e8
      subst e6
      obtain ⟨a, vv, qv, ev, rfl, hab, hcell⟩ := hc i hix
      have hcell2 := hcell.stays HB2.out (by rw [block_add]; exact hab)
      have HV1 := hide hcell.vars
      have HV2 := hide hcell.queues
      have HV3 := hide hcell.ents
      obtain ⟨p, hpa⟩ : ∃ p, a.add (i * 4) = p := ⟨_, rfl⟩
      rw [hpa] at hcell2
      have HGOOD : Hid (monOkB ms[i] = true → ∀ j, j < i + 1 → ∀ h : j < ms.length, monOkB ms[j] = true) := fun h j hj hj2 => by
        by_cases e : j = i
        · subst e; exact h
        · exact HG.out j (by omega) hj2
      obtain ⟨x, ex⟩ : ∃ x, ms[i] = x := ⟨_, rfl⟩
      rw [ex] at HEL HEM HNX hcell2 HV1 HV2 HV3 HBAD HGOOD
      obtain ⟨d0, d1, d2, d3, hv1, hv2, hv3⟩ := hcell2
      obtain ⟨vo, vc, rfl, _⟩ := hv1
      obtain ⟨qo, qc, rfl, _⟩ := hv2
      obtain ⟨eo, ec, rfl, _⟩ := hv3
      clear ex hc e7 e8 hcell
      obtain ⟨L, eL⟩ : ∃ L, (ms.take i).map Mo.name = L := ⟨_, rfl⟩
      rw [eL] at HO HNX HLL
      clear eL hix HG
      have HBA : Hid (Below wr.heap.size wr (wr.alloc (.cells #[.string x.name, .slice vo x.vars.length vc, .slice qo x.queues.length qc, .slice eo x.ents.length ec] 54))) := (Below.refl _ _).alloc (Nat.le_refl _) _
      have HOA := hide (HO.out.stays HBA.out)
      have HMB := hide (Box.made wr #[.string x.name, .slice vo x.vars.length vc, .slice qo x.queues.length qc, .slice eo x.ents.length ec] 54)
      have hwz : W0.heap.size ≤ (wr.alloc (.cells #[.string x.name, .slice vo x.vars.length vc, .slice qo x.queues.length qc, .slice eo x.ents.length ec] 54)).heap.size := Nat.le_trans HB2.out.size HBA.out.size
      go_wp2_with (at_builtin; refine wpList_app_r2 (kb := wr.heap.size + 1) (by simp) rfl (.tmp 18) (.tmp 21) rfl HOA.out rfl rfl hwz (by have := HLL.out; omega) ?_)
      intro v1 w1 hr1 hb1 hk1
      rw [← HNX.out] at hr1
      have O1 := hide hr1
      have B1 : Hid (Below W0.heap.size W0 w1) := (HB2.out.alloc HB2.out.size _).trans hb1
      have M1 := hide (hk1 _ _ _ (by decide) HMB.out)
      obtain ⟨g5, eg5⟩ : ∃ g, wr.heap.size = g := ⟨_, rfl⟩
      rw [eg5] at M1 ⊢
      have p0 := Lib.cell_of_heap M1.out 0
      have p1 := Lib.cell_of_heap M1.out 1
      have p2 := Lib.cell_of_heap M1.out 2
      have p3 := Lib.cell_of_heap M1.out 3
      simp at p0 p1 p2 p3
      have CN := CM (.slice vo x.vars.length vc) (.slice qo x.queues.length qc) (.slice eo x.ents.length ec) x w1 (HV1.out.stays B1.out) (HV2.out.stays B1.out) (HV3.out.stays B1.out) HEL.out HEM.out
      clear hr1 hb1 hk1 HOA HBA HMB hwz HO eg5 d0 d1 d2 d3 c0 c1 c2 HB2
      cases hq : monOkB x with
      | false =>
        rw [hq] at CN
        have eR2 : R = false := HBAD.out hq
        subst eR2
        clear hq
        go_wp2_with (go_at_call 49; refine (unhide CN).mono ?_; rintro e w8 ⟨rfl, hb8⟩)
        go_ret
        exact ⟨rfl, HB.out.trans ((B1.out.trans (hb8.mono B1.out.size)).mono HB.out.size)⟩
      | true =>
        rw [hq] at CN
        have GG := hide (HGOOD.out hq)
        clear hq
        go_wp2_with (go_at_call 49; refine (unhide CN).mono ?_; rintro e w8 ⟨rfl, hb8⟩)
        have E8 : Hid (Below W0.heap.size W0 w8) := B1.out.trans (hb8.mono B1.out.size)
        have O8 := hide (O1.out.stays hb8)
        clear hb8
        go_roundw
        case rel => exact ⟨i + 1, by omega, by go_num, O8.out, E8.out, GG.out⟩
        case measure => simp [intOf]; omega
    · have hlt' : ¬ (i : Int) < (n : Int) := by omega
      have e9 : ms.take i = ms := List.take_of_length_le (by rw [EN.out]; omega)
      rw [e9] at HO
      have HGM : Hid (∀ k (hk : k < ms.length), monOkB ms[k] = true) := fun k hk => HG.out k (by have := hk; rw [EN.out] at this; omega) hk
      have HOS := hide HO.out.symm
      clear e9 HG HO
      go_wp2
      go_loopw [4, 30] (NeR W0 q (fun i => (ps.take i).map Pr.name) u3 (ms.map Mo.name) (fun j => ∀ h : j < ps.length, proNoB ps[j] = true)) (fun _ iv _ => q - (intOf iv).toNat)
      case atStart => exact ⟨0, by omega, rfl, HOS.out, HB2.out, fun j hj => absurd hj (Nat.not_lt_zero j)⟩
      case round =>
        clear HOS HB2 c0 c1 c2
        obtain ⟨i, hi, rfl, HO, HB2, HG⟩ := hrel
        dsimp only at HO
        obtain ⟨c0, c1, c2, _⟩ := HX.out.stays HB2.out
        by_cases hlt : i < q
        · have hlt' : (i : Int) < (q : Int) := by omega
          have hi0 : (0 : Int) ≤ (i : Int) := by omega
          have hix : i < ps.length := by rw [EQ.out]; exact hlt
          have HEL := hide (HPI.out _ (List.getElem_mem hix))
          have HNX : Hid ((ps.take (i + 1)).map Pr.name = (ps.take i).map Pr.name ++ [ps[i].name]) := by show _ = _; rw [List.take_succ_eq_append_getElem hix, List.map_append]; rfl
          have HLL : Hid (((ps.take i).map Pr.name).length ≤ 1048576) := by show _ ≤ _; rw [List.length_map, List.length_take, EQ.out]; omega
          have HBAD : Hid (proNoB ps[i] = false → R = false) := fun h => by rw [← ER.out]; exact namI_pro hix h
          obtain ⟨ao', cc, e5, hc⟩ := HP.out
          injection e5 with e6 e7 e8
          subst e6
          obtain ⟨a, uv, vv, rfl, hab, hcell⟩ := hc i hix
          have hcell2 := hcell.stays HB2.out (by rw [block_add]; exact hab)
          have HV1 := hide hcell.uses
          have HV2 := hide hcell.vars
          obtain ⟨p, hpa⟩ : ∃ p, a.add (i * 4) = p := ⟨_, rfl⟩
          rw [hpa] at hcell2
          have HGOOD : Hid (proNoB ps[i] = true → ∀ j, j < i + 1 → ∀ h : j < ps.length, proNoB ps[j] = true) := fun h j hj hj2 => by
            by_cases e : j = i
            · subst e; exact h
            · exact HG.out j (by omega) hj2
          obtain ⟨x, ex⟩ : ∃ x, ps[i] = x := ⟨_, rfl⟩
          rw [ex] at HEL HNX hcell2 HV1 HV2 HBAD HGOOD
          obtain ⟨d0, d1, d2, d3, hv1, hv2⟩ := hcell2
          obtain ⟨uo, uc, rfl, _⟩ := hv1
          obtain ⟨vo, vc, rfl, _⟩ := hv2
          clear ex hc e7 e8 hcell
          obtain ⟨L, eL⟩ : ∃ L, (ps.take i).map Pr.name = L := ⟨_, rfl⟩
          rw [eL] at HO HNX HLL
          clear eL hix HG
          have HBA : Hid (Below wr.heap.size wr (wr.alloc (.cells #[.string x.name, .slice uo x.uses.length uc, .slice vo x.vars.length vc, .int .i64 x.body] 57))) := (Below.refl _ _).alloc (Nat.le_refl _) _
          have HOA := hide (HO.out.stays HBA.out)
          have HMB := hide (Box.made wr #[.string x.name, .slice uo x.uses.length uc, .slice vo x.vars.length vc, .int .i64 x.body] 57)
          have hwz : W0.heap.size ≤ (wr.alloc (.cells #[.string x.name, .slice uo x.uses.length uc, .slice vo x.vars.length vc, .int .i64 x.body] 57)).heap.size := Nat.le_trans HB2.out.size HBA.out.size
          go_wp2_with (at_builtin; refine wpList_app_r2 (kb := wr.heap.size + 1) (by simp) rfl (.tmp 34) (.tmp 37) rfl HOA.out rfl rfl hwz (by have := HLL.out; omega) ?_)
          intro v1 w1 hr1 hb1 hk1
          rw [← HNX.out] at hr1
          have O1 := hide hr1
          have B1 : Hid (Below W0.heap.size W0 w1) := (HB2.out.alloc HB2.out.size _).trans hb1
          have M1 := hide (hk1 _ _ _ (by decide) HMB.out)
          obtain ⟨g5, eg5⟩ : ∃ g, wr.heap.size = g := ⟨_, rfl⟩
          rw [eg5] at M1 ⊢
          have p1 := Lib.cell_of_heap M1.out 1
          have p2 := Lib.cell_of_heap M1.out 2
          simp at p1 p2
          have CN1 := CU (.slice uo x.uses.length uc) x.uses w1 (HV1.out.stays B1.out) HEL.out.uses.1 HEL.out.uses.2
          clear hr1 hb1 hk1 HOA HBA HMB hwz HO eg5 d0 d1 d2 d3 c0 c1 c2 HB2
          cases hq1 : unlikeB x.uses with
          | false =>
            rw [hq1] at CN1
            have eR2 : R = false := HBAD.out (by rw [proNoB, hq1]; rfl)
            subst eR2
            clear hq1
            go_wp2_with (go_at_call 50; refine (unhide CN1).mono ?_; rintro e w8 ⟨rfl, hb8⟩)
            go_ret
            exact ⟨rfl, HB.out.trans ((B1.out.trans (hb8.mono B1.out.size)).mono HB.out.size)⟩
          | true =>
            rw [hq1] at CN1
            go_wp2_with fail
            refine (unhide CN1).mono ?_
            rintro e w8 ⟨rfl, hb8⟩
            have E8 : Hid (Below W0.heap.size W0 w8) := B1.out.trans (hb8.mono B1.out.size)
            have O8 := hide (O1.out.stays hb8)
            clear p1 p2
            have p2 := Lib.cell_of_heap (M1.out.stays hb8) 2
            simp at p2
            clear hb8 CN1
            have CN2 := CU (.slice vo x.vars.length vc) x.vars w8 (HV2.out.stays E8.out) HEL.out.vars.1 HEL.out.vars.2
            cases hq2 : unlikeB x.vars with
            | false =>
              rw [hq2] at CN2
              have eR2 : R = false := HBAD.out (by rw [proNoB, hq2, Bool.and_false])
              subst eR2
              clear hq2
              go_wp2_with (go_at_call 50; refine (unhide CN2).mono ?_; rintro e w9 ⟨rfl, hb9⟩)
              go_ret
              exact ⟨rfl, HB.out.trans ((E8.out.trans (hb9.mono E8.out.size)).mono HB.out.size)⟩
            | true =>
              rw [hq2] at CN2
              have GG := hide (HGOOD.out (by rw [proNoB, hq1, hq2]; rfl))
              clear hq2
              go_wp2_with (go_at_call 50; refine (unhide CN2).mono ?_; rintro e w9 ⟨rfl, hb9⟩)
              have E9 : Hid (Below W0.heap.size W0 w9) := E8.out.trans (hb9.mono E8.out.size)
              have O9 := hide (O8.out.stays hb9)
              clear hb9
              go_roundw
              case rel => exact ⟨i + 1, by omega, by go_num, O9.out, E9.out, GG.out⟩
              case measure => simp [intOf]; omega
        · have hlt' : ¬ (i : Int) < (q : Int) := by omega
          have e9 : ps.take i = ps := List.take_of_length_le (by rw [EQ.out]; omega)
          rw [e9] at HO
          have HRR : Hid (R = (unlikeB (ms.map Mo.name) && unlikeB (ps.map Pr.name))) := by
            show _ = _
            rw [← ER.out]
            exact namI_of HGM.out fun k hk => HG.out k (by have := hk; rw [EQ.out] at this; omega) hk
          clear HG e9
          have h66 : (ms.map Mo.name).length ≤ 1048576 := by rw [List.length_map, EN.out]; exact hml
          have h67 : (ps.map Pr.name).length ≤ 1048576 := by rw [List.length_map, EQ.out]; exact hpl
          have HS6 : Hid (∀ s ∈ ms.map Mo.name, s.size ≤ 1048576) := fun s hs => by
            obtain ⟨y, hy, rfl⟩ := List.mem_map.1 hs
            exact (HMI.out y hy).name
          have HS7 : Hid (∀ s ∈ ps.map Pr.name, s.size ≤ 1048576) := fun s hs => by
            obtain ⟨y, hy, rfl⟩ := List.mem_map.1 hs
            exact (HPI.out y hy).name
          have CN1 := CU _ _ wr (StrsAt.own HO.out.o2) h66 HS6.out
          cases hq1 : unlikeB (ms.map Mo.name) with
          | false =>
            rw [hq1] at CN1
            have eR2 : R = false := by rw [HRR.out, hq1]; rfl
            subst eR2
            clear hq1
            go_wp2_with (go_at_call 50; refine (unhide CN1).mono ?_; rintro e w8 ⟨rfl, hb8⟩)
            go_ret
            exact ⟨rfl, HB.out.trans ((HB2.out.trans (hb8.mono HB2.out.size)).mono HB.out.size)⟩
          | true =>
            rw [hq1] at CN1 HRR
            clear hq1
            go_wp2_with fail
            refine (unhide CN1).mono ?_
            rintro e w8 ⟨rfl, hb8⟩
            have CN2 := CU _ _ w8 (StrsAt.own (HO.out.stays hb8).o1) h67 HS7.out
            have eR2 : R = unlikeB (ps.map Pr.name) := by rw [HRR.out, Bool.true_and]
            subst eR2
            have E8 : Hid (Below W0.heap.size W0 w8) := HB2.out.trans (hb8.mono HB2.out.size)
            clear hb8
            go_wp2_with (go_at_call 50; refine (unhide CN2).mono ?_; rintro e w9 ⟨rfl, hb9⟩)
            go_ret
            exact ⟨rfl, HB.out.trans ((E8.out.trans (hb9.mono E8.out.size)).mono HB.out.size)⟩
end Go.Proofs.YtenhmecbebibkaaGreat

namespace Go.Proofs.YtenhmecbebibkaaGreat
open Go.RowKit

def InR (w : World) (xs : List ByteArray) (s : ByteArray) (n : Nat) (iv : Value) (wr : World) : Prop := ∃ i : Nat, i ≤ n ∧ iv = .int .i64 i ∧ wr = w ∧ Hid (∀ j, j < i → xs[j]? ≠ some s)

set_option maxRecDepth 100000 in
set_option maxHeartbeats 1000000 in
theorem l08In_any (v : Value) (xs : List ByteArray) (s : ByteArray) (w : World) (h : StrsAt w v xs) (hl : xs.length ≤ 1048576) :
    Calls Tryz.prog 39 #[v, .string s] w fun e w' => e = .returned (.bool (memB xs s)) ∧ w' = w := by
  have H := hide h
  obtain ⟨ao, c, rfl, _⟩ := h
  obtain ⟨n, en⟩ : ∃ n, xs.length = n := ⟨_, rfl⟩
  have EN := hide en
  rw [en] at H hl ⊢
  clear en
  go_enter Tryz.func39, Tryz.ntmps39
  go_wp2
  go_loopw [5] (fun iv wr => InR w xs s n iv wr) (fun iv _ => n - (intOf iv).toNat)
  case atStart => exact ⟨0, by omega, rfl, rfl, fun j hj => absurd hj (Nat.not_lt_zero j)⟩
  case round =>
    obtain ⟨i, hi, rfl, rfl, HN⟩ := hrel
    by_cases hlt : i < n
    · have hlt' : (i : Int) < (n : Int) := by omega
      have hi0 : (0 : Int) ≤ (i : Int) := by omega
      have hix : i < xs.length := by rw [EN.out]; exact hlt
      obtain ⟨ao', c', e1, hc1⟩ := H.out
      injection e1 with e2 e3 e4
      subst e2
      obtain ⟨a, rfl, _, hx⟩ := hc1 i hix
      have EX : Hid (xs[i]? = some xs[i]) := List.getElem?_eq_getElem hix
      have HM : Hid (xs[i] ∈ xs) := List.getElem_mem hix
      obtain ⟨x, ex⟩ : ∃ x, xs[i] = x := ⟨_, rfl⟩
      rw [ex] at hx EX HM
      clear hc1 e3 e4 ex
      by_cases hxs : x = s
      · have HF : Hid (memB xs s = true) := memB_iff.2 (by rw [← hxs]; exact HM.out)
        subst hxs
        go_wp2
        go_ret
        exact ⟨by rw [HF.out]; rfl, rfl⟩
      · have hxs' : (x.toList == s.toList) = false := by rw [Bool.eq_false_iff]; exact fun h => hxs (str_beq.1 h)
        have HN2 : Hid (∀ j, j < i + 1 → xs[j]? ≠ some s) := fun j hj => by
          rcases Nat.lt_succ_iff_lt_or_eq.1 hj with hj | hj
          · exact HN.out j hj
          · subst hj; rw [EX.out]; exact fun q => hxs (Option.some.inj q)
        go_wp2
        go_roundw
        case rel => exact ⟨i + 1, by omega, by go_num, rfl, HN2⟩
        case measure => simp [intOf]; omega
    · have hlt' : ¬ (i : Int) < (n : Int) := by omega
      have HF : Hid (memB xs s = false) := memB_no.2 (fun q => by
        obtain ⟨j, hj, e⟩ := List.getElem_of_mem q
        exact HN.out j (by rw [EN.out] at hj; omega) (by rw [List.getElem?_eq_getElem hj, e]))
      go_wp2
      go_ret
      exact ⟨by rw [HF.out]; rfl, rfl⟩
end Go.Proofs.YtenhmecbebibkaaGreat

namespace Go.Proofs.YtenhmecbebibkaaGreat
open Go.RowKit

/-- The place of the first entry of this name in that monitor. -/
def entAt (ms : List Mo) (m : Int) (s : ByteArray) : Int := if 0 ≤ m ∧ m < (ms.length : Int) then firstAt (entN s) (ms.getD m.toNat default).ents else -1
theorem entAt_in {ms : List Mo} {k : Nat} (hk : k < ms.length) (s : ByteArray) : entAt ms (k : Int) s = firstAt (entN s) ms[k].ents := by
  rw [entAt, if_pos ⟨by omega, by omega⟩, Int.toNat_natCast, List.getD_eq_getElem?_getD, List.getElem?_eq_getElem hk]
  rfl
theorem entAt_out {ms : List Mo} {m : Int} (h : ¬ (0 ≤ m ∧ m < (ms.length : Int))) (s : ByteArray) : entAt ms m s = -1 := by rw [entAt, if_neg h]
theorem EnsAt.sl {w : World} {v : Value} {xs : List En} (h : EnsAt w v xs) : SlV v := by obtain ⟨a, c, e, _⟩ := h; exact ⟨_, _, _, e⟩

set_option maxRecDepth 100000 in
set_option maxHeartbeats 2000000 in
theorem specEntryAt_any (nv mv pv : Value) (ms : List Mo) (m : Int) (s : ByteArray) (w : World) (hN : SlV nv) (hM : MosAt w mv ms) (hP : SlV pv) (hl : ms.length ≤ 1048576) (he : ∀ x ∈ ms, x.ents.length ≤ 1048576) :
    Calls Tryz.prog 41 #[.agg #[nv, mv, pv], .int .i64 m, .string s] w fun e w' => e = .returned (.int .i64 (entAt ms m s)) ∧ Below w.heap.size w w' := by
  have hb1 : Below w.heap.size w (w.alloc (.cells #[nv, mv, pv] 33)) := (Below.refl _ _).alloc (Nat.le_refl _) _
  have HM := hide (hM.stays hb1)
  have HX := hide (Boxed.made w nv mv pv 33)
  have HB := hide hb1
  have CI := fun w => hide (l01In_gen m 0 ((ms.length : Int) - 1) w)
  clear hb1
  obtain ⟨ao, an, ac, rfl⟩ := hN
  obtain ⟨mo, mc, rfl, _⟩ := hM
  obtain ⟨po, pn, pc, rfl⟩ := hP
  obtain ⟨n, en⟩ : ∃ n, ms.length = n := ⟨_, rfl⟩
  have EN := hide en
  have HE := hide he
  rw [en] at HM HX HB CI hl ⊢
  clear en he
  obtain ⟨c0, c1, c2, hlt0⟩ := HX.out
  cases hin : inZ 0 ((n : Int) - 1) m with
  | false =>
    have HF : Hid (entAt ms m s = -1) := entAt_out (fun q => by
      rw [EN.out] at q
      have := inZ_yes.2 (show 0 ≤ m ∧ m ≤ (n : Int) - 1 by omega)
      rw [hin] at this
      cases this) s
    rw [hin] at CI
    clear hin
    go_enter Tryz.func41, Tryz.ntmps41
    go_wp2_with (go_at_call 33; refine (unhide (CI _)).mono ?_; rintro e w3 ⟨rfl, rfl⟩)
    go_ret
    exact ⟨by rw [HF.out]; rfl, HB.out⟩
  | true =>
    have hin2 := inZ_yes.1 hin
    obtain ⟨k, ek⟩ : ∃ k : Nat, m = (k : Int) := ⟨m.toNat, by omega⟩
    subst ek
    have hk : k < n := by omega
    have hkx : k < ms.length := by rw [EN.out]; exact hk
    have hk0 : (0 : Int) ≤ (k : Int) := by omega
    have hk' : (k : Int) < (n : Int) := by omega
    have HF : Hid (entAt ms (k : Int) s = firstAt (entN s) ms[k].ents) := entAt_in hkx s
    have hle := HE.out _ (List.getElem_mem hkx)
    rw [hin] at CI
    obtain ⟨x, ex⟩ : ∃ x, ms[k] = x := ⟨_, rfl⟩
    rw [ex] at HF hle
    have EX := hide ex
    obtain ⟨n2, en2⟩ : ∃ n2, x.ents.length = n2 := ⟨_, rfl⟩
    have EN2 := hide en2
    rw [en2] at hle
    clear hin hin2 ex en2
    go_enter Tryz.func41, Tryz.ntmps41
    go_wp2_with (go_at_call 33; refine (unhide (CI _)).mono ?_; rintro e w3 ⟨rfl, rfl⟩)
    generalize w.alloc (.cells #[.slice ao an ac, .slice mo n mc, .slice po pn pc] 33) = W1 at *
    go_loopw [7] (fun iv wr => SchR W1 (entN s) x.ents iv wr) (fun iv _ => n2 - (intOf iv).toNat)
    case atStart => exact ⟨0, by omega, rfl, Below.refl _ _, NoneTo.zero _ _⟩
    case round =>
      clear c0 c1 c2 hlt0
      obtain ⟨i, hi, rfl, HB2, HN⟩ := hrel
      rw [EN2.out] at hi
      obtain ⟨c0, c1, c2, _⟩ := HX.out.stays HB2.out
      have HBB := hide (HB.out.trans (HB2.out.mono HB.out.size))
      obtain ⟨ao', c', e1, hc1⟩ := HM.out.stays HB2.out
      injection e1 with e2 e3 e4
      subst e2
      obtain ⟨a, vv, qv, ev, rfl, hpb, hx⟩ := hc1 k hkx
      obtain ⟨p, hpa⟩ : ∃ p, a.add (k * 4) = p := ⟨_, rfl⟩
      rw [hpa, EX.out] at hx
      have d3 := hx.c3
      obtain ⟨eo, ec, rfl, hec⟩ := hx.ents
      rw [EN2.out] at d3
      clear hx hc1 e3 e4
      by_cases hlt : i < n2
      · have hlt' : (i : Int) < (n2 : Int) := by omega
        have hi0 : (0 : Int) ≤ (i : Int) := by omega
        have hix : i < x.ents.length := by rw [EN2.out]; exact hlt
        obtain ⟨b, rfl, _, hy⟩ := hec i hix
        obtain ⟨r, hra⟩ : ∃ r, b.add (i * 3) = r := ⟨_, rfl⟩
        have f0 := hy.c0
        rw [hra] at f0
        have HH := hide (HN.out.hit hix)
        have HS := hide (HN.out.step (i := i))
        obtain ⟨y, ey⟩ : ∃ y, x.ents[i] = y := ⟨_, rfl⟩
        simp only [ey] at f0 HH HS
        clear hy hec ey
        by_cases hxs : y.name = s
        · have HF2 := hide (HF.out.trans (HH.out (decide_eq_true hxs)))
          subst hxs
          go_wp2
          go_ret
          exact ⟨by rw [HF2.out]; rfl, HBB.out⟩
        · have hxs' : (y.name.toList == s.toList) = false := by rw [Bool.eq_false_iff]; exact fun h => hxs (str_beq.1 h)
          have HS2 := hide (HS.out (fun _ => decide_eq_false hxs))
          go_wp2
          go_roundw
          case rel => exact ⟨i + 1, by rw [EN2.out]; omega, by go_num, HB2.out, HS2.out⟩
          case measure => simp [intOf]; omega
      · have hlt' : ¬ (i : Int) < (n2 : Int) := by omega
        have HF2 := hide (HF.out.trans (HN.out.none (by rw [EN2.out]; omega)))
        clear hec
        go_wp2
        go_ret
        exact ⟨by rw [HF2.out]; rfl, HBB.out⟩

end Go.Proofs.YtenhmecbebibkaaGreat
