/-
  Walks of the program: who uses what.
-/
import Derived.Test.YtpdpmnkonkpheaaRgtW
import Derived.Test.YtpdpmnkonkpheaaAccW
import Derived.Deep.RegionHeld3
namespace Go.Proofs.Ytpdpmnkonkpheaa
open Go.RowKit

structure UsZ (W z : World) : Prop where
  bel : Below W.heap.size W z
theorem UsZ.stays {W z z' : World} (h : UsZ W z) (hb : Below z.heap.size z z') : UsZ W z' := ⟨h.bel.trans (hb.mono h.bel.size)⟩

set_option maxHeartbeats 1000000 in
theorem hasPro_any (nv mv : Value) (po : Option Addr) (q pc : Nat) (k : Int) (w : World) :
    Calls Try.prog 24 #[.agg #[nv, mv, .slice po q pc], .int .i64 k] w fun e w' => e = .returned (.bool (decide (0 ≤ k) && decide (k < (q : Int)))) ∧ Below w.heap.size w w' := by
  have hb1 : Below w.heap.size w (w.alloc (.cells #[nv, mv, .slice po q pc] 33)) := (Below.refl _ _).alloc (Nat.le_refl _) _
  have HB := hide hb1
  have c2 := (Boxed.made w nv mv (.slice po q pc) 33).c2
  clear hb1
  by_cases h0 : 0 ≤ k
  · by_cases h1 : k < (q : Int)
    · go_enter Try.func24, Try.ntmps24
      go_wp2
      go_ret
      exact ⟨by simp [h0, h1], HB.out⟩
    · go_enter Try.func24, Try.ntmps24
      go_wp2
      go_ret
      exact ⟨by simp [h1], HB.out⟩
  · go_enter Try.func24, Try.ntmps24
    go_wp2
    go_ret
    exact ⟨by simp; omega, HB.out⟩
set_option maxHeartbeats 1000000 in
theorem hasMon_any (nv pv : Value) (mo : Option Addr) (n mc : Nat) (k : Int) (w : World) :
    Calls Try.prog 25 #[.agg #[nv, .slice mo n mc, pv], .int .i64 k] w fun e w' => e = .returned (.bool (decide (0 ≤ k) && decide (k < (n : Int)))) ∧ Below w.heap.size w w' := by
  have hb1 : Below w.heap.size w (w.alloc (.cells #[nv, .slice mo n mc, pv] 33)) := (Below.refl _ _).alloc (Nat.le_refl _) _
  have HB := hide hb1
  have c1 := (Boxed.made w nv (.slice mo n mc) pv 33).c1
  clear hb1
  by_cases h0 : 0 ≤ k
  · by_cases h1 : k < (n : Int)
    · go_enter Try.func25, Try.ntmps25
      go_wp2
      go_ret
      exact ⟨by simp [h0, h1], HB.out⟩
    · go_enter Try.func25, Try.ntmps25
      go_wp2
      go_ret
      exact ⟨by simp [h1], HB.out⟩
  · go_enter Try.func25, Try.ntmps25
    go_wp2
    go_ret
    exact ⟨by simp; omega, HB.out⟩
theorem hasR_used (us : List ByteArray) (s : ByteArray) : hasR (bitsR us [] s) 1 = memB us s := by
  unfold bitsR hasR
  cases memB us s <;> simp [memB]

set_option maxRecDepth 100000 in
set_option maxHeartbeats 4000000 in
theorem implUses_any (nv mv pv : Value) (ms : List Mo) (ps : List Pr) (i m : Int) (w : World) (hN : SlV nv) (hM : MosAt w mv ms) (hP : PrsAt w pv ps) (hul : ∀ p ∈ ps, p.uses.length ≤ 1048576) (hus : ∀ p ∈ ps, ∀ u ∈ p.uses, u.size ≤ 1048576) (hmn : ∀ m ∈ ms, m.name.size ≤ 1048576) :
    Calls Try.prog 8 #[.agg #[nv, mv, pv], .int .i64 i, .int .i64 m] w fun e w' => e = .returned (.bool (usesP ms ps i m)) ∧ Below w.heap.size w w' := by
  have hb1 : Below w.heap.size w (w.alloc (.cells #[nv, mv, pv] 33)) := (Below.refl _ _).alloc (Nat.le_refl _) _
  have HM := hide (hM.stays hb1)
  have HP := hide (hP.stays hb1)
  have HX := hide (Boxed.made w nv mv pv 33)
  have HB := hide hb1
  have HUL := hide hul
  have HUS := hide hus
  have HMN := hide hmn
  clear hb1 hul hus hmn
  obtain ⟨ao, an, ac, rfl⟩ := hN
  obtain ⟨mo, mc, rfl, _⟩ := hM
  obtain ⟨po, pc, rfl, _⟩ := hP
  obtain ⟨R, eR⟩ : ∃ R, usesP ms ps i m = R := ⟨_, rfl⟩
  have ER := hide eR
  rw [eR]
  clear eR
  obtain ⟨n, en⟩ : ∃ n, ms.length = n := ⟨_, rfl⟩
  have EN := hide en
  obtain ⟨q, eq⟩ : ∃ q, ps.length = q := ⟨_, rfl⟩
  have EQ := hide eq
  rw [en, eq] at HM HP HX HB ⊢
  clear en eq
  have C1 := fun z => hide (hasPro_any (.slice ao an ac) (.slice mo n mc) po q pc i z)
  have C2 := fun z => hide (hasMon_any (.slice ao an ac) (.slice po q pc) mo n mc m z)
  obtain ⟨c0, c1, c2, hlt0⟩ := HX.out
  obtain ⟨W1, hW⟩ : ∃ W1, w.alloc (.cells #[.slice ao an ac, .slice mo n mc, .slice po q pc] 33) = W1 := ⟨_, rfl⟩
  have HWW := hide hW
  rw [hW] at HM HP HB HX c0 c1 c2
  clear hW hlt0
  obtain ⟨q1, eq1⟩ : ∃ q1, (decide (0 ≤ i) && decide (i < (q : Int))) = q1 := ⟨_, rfl⟩
  have EQ1 := hide eq1
  rw [eq1] at C1
  clear eq1
  obtain ⟨q2, eq2⟩ : ∃ q2, (decide (0 ≤ m) && decide (m < (n : Int))) = q2 := ⟨_, rfl⟩
  have EQ2 := hide eq2
  rw [eq2] at C2
  clear eq2
  cases q1 with
  | false =>
    have eR2 : R = false := by
      rw [← ER.out, usesP, if_neg]
      rintro ⟨a, b, _⟩
      have := EQ1.out
      rw [EQ.out] at b
      simp [a, b] at this
    subst eR2
    go_enter Try.func8, Try.ntmps8
    go_wp2_with fail
    rw [HWW.out]
    refine (unhide (C1 _)).mono ?_
    rintro e w3 ⟨rfl, hb3⟩
    have HB3 := hide (HB.out.trans (hb3.mono HB.out.size))
    clear hb3
    go_wp2
    go_ret
    exact ⟨rfl, HB3.out⟩
  | true =>
    have hi2 : 0 ≤ i ∧ i < (q : Int) := by simpa using EQ1.out
    obtain ⟨j, ej⟩ : ∃ j : Nat, i = (j : Int) := ⟨i.toNat, by omega⟩
    subst ej
    have hj0 : (0 : Int) ≤ (j : Int) := by omega
    have hj1 : (j : Int) < (q : Int) := by omega
    have hjx : j < ps.length := by rw [EQ.out]; omega
    cases q2 with
    | false =>
      have eR2 : R = false := by
        rw [← ER.out, usesP, if_neg]
        rintro ⟨_, _, a, b⟩
        have := EQ2.out
        rw [EN.out] at b
        simp [a, b] at this
      subst eR2
      go_enter Try.func8, Try.ntmps8
      go_wp2_with fail
      rw [HWW.out]
      refine (unhide (C1 _)).mono ?_
      rintro e w3 ⟨rfl, hb3⟩
      have HB3 := hide (HB.out.trans (hb3.mono HB.out.size))
      obtain ⟨f0, f1, f2, _⟩ := HX.out.stays hb3
      clear hb3 c0 c1 c2
      go_wp2_with fail
      refine (unhide (C2 _)).mono ?_
      rintro e w4 ⟨rfl, hb4⟩
      have HB4 := hide (HB3.out.trans (hb4.mono HB3.out.size))
      clear hb4
      go_wp2
      go_ret
      exact ⟨rfl, HB4.out⟩
    | true =>
      have hm2 : 0 ≤ m ∧ m < (n : Int) := by simpa using EQ2.out
      obtain ⟨k, ek⟩ : ∃ k : Nat, m = (k : Int) := ⟨m.toNat, by omega⟩
      subst ek
      have hk0 : (0 : Int) ≤ (k : Int) := by omega
      have hk1 : (k : Int) < (n : Int) := by omega
      have hkx : k < ms.length := by rw [EN.out]; omega
      have HR : Hid (memB ps[j].uses ms[k].name = R) := by rw [← ER.out, usesP_in hjx hkx]; exact hide rfl
      have hu := HUL.out _ (List.getElem_mem hjx)
      have hus := HUS.out _ (List.getElem_mem hjx)
      have hnm := HMN.out _ (List.getElem_mem hkx)
      obtain ⟨po', pc', e5, hpc⟩ := HP.out
      injection e5 with e6 e7 e8
      subst e6
      obtain ⟨pa, uv, vv, rfl, hpb, hpx⟩ := hpc j hjx
      obtain ⟨mo', mc', e5, hmc⟩ := HM.out
      injection e5 with e6 e9 e10
      subst e6
      obtain ⟨ma, v1, v2, v3, rfl, hmb, hmx⟩ := hmc k hkx
      obtain ⟨r1, hr1⟩ : ∃ r, pa.add (j * 4) = r := ⟨_, rfl⟩
      obtain ⟨r2, hr2⟩ : ∃ r, ma.add (k * 4) = r := ⟨_, rfl⟩
      rw [← block_add pa (j * 4), hr1] at hpb
      rw [← block_add ma (k * 4), hr2] at hmb
      rw [hr1] at hpx
      rw [hr2] at hmx
      obtain ⟨x, ex⟩ : ∃ x, ps[j] = x := ⟨_, rfl⟩
      obtain ⟨y, ey⟩ : ∃ y, ms[k] = y := ⟨_, rfl⟩
      rw [ex] at hu hus HR hpx
      rw [ey] at hnm HR hmx
      have HPX := hide hpx
      have HMX := hide hmx
      have HPB := hide hpb
      have HMB := hide hmb
      have hu0 := hpx.uses
      obtain ⟨uo, uc, rfl, _⟩ := hpx.uses
      have hv0 := hpx.vars
      obtain ⟨vo, vc, rfl, _⟩ := hpx.vars
      have HU := hide hu0
      have HLU := hide hu
      have HSU := hide hus
      have CR := fun z h => hide (rightsUse_any (.slice ao an ac) (.slice (some ma) n mc) (.slice (some pa) q pc) (.slice uo x.uses.length uc) (.slice vo x.vars.length vc) x.name x.body x.uses z h HLU.out HSU.out)
      have CH := fun z => hide (rightHas_any (bitsR x.uses [] y.name) 1 z (bitsR_cases _ _ _) (.inl rfl))
      rw [hasR_used, HR.out] at CH
      obtain ⟨bt, ebt⟩ : ∃ bt, bitsR x.uses [] y.name = bt := ⟨_, rfl⟩
      have EBT := hide ebt
      rw [ebt] at CH
      clear ebt hpc hmc e7 e8 e9 e10 hpx hmx ex ey hi2 hm2 hpb hmb hu0 hv0 hu hus
      go_enter Try.func8, Try.ntmps8
      go_wp2_with fail
      rw [HWW.out]
      refine (unhide (C1 _)).mono ?_
      rintro e w3 ⟨rfl, hb3⟩
      have hb13 : Below W1.heap.size W1 w3 := hb3
      obtain ⟨f0, f1, f2, _⟩ := HX.out.stays hb3
      clear hb3 c0 c1 c2
      go_wp2_with fail
      refine (unhide (C2 _)).mono ?_
      rintro e w4 ⟨rfl, hb4⟩
      have Z4 : Hid (UsZ W1 w4) := ⟨hb13.trans (hb4.mono hb13.size)⟩
      clear hb4 hb13 f0 f1 f2 C1 C2
      go_wp2_with fail
      have KC : Hid (∀ z, UsZ W1 z → (z.cell? { block := w.heap.size, off := 0 } = some (.slice ao an ac) ∧ z.cell? { block := w.heap.size, off := 1 } = some (.slice (some ma) n mc) ∧ z.cell? { block := w.heap.size, off := 2 } = some (.slice (some pa) q pc) ∧ z.cell? r1 = some (.string x.name) ∧ z.cell? { block := r1.block, off := r1.off + 1 } = some (.slice uo x.uses.length uc) ∧ z.cell? { block := r1.block, off := r1.off + 2 } = some (.slice vo x.vars.length vc) ∧ z.cell? { block := r1.block, off := r1.off + 3 } = some (.int .i64 x.body) ∧ z.cell? r2 = some (.string y.name) ∧ Hid (UsZ W1 z))) := fun z hz => by
        obtain ⟨c0, c1, c2, _⟩ := HX.out.stays hz.bel
        have h1 := HPX.out.stays hz.bel HPB.out
        have h2 := HMX.out.stays hz.bel HMB.out
        exact ⟨c0, c1, c2, h1.c0, h1.c1, h1.c2, h1.c3, h2.c0, hz⟩
      have KV : Hid (∀ z, (z.cell? { block := w.heap.size, off := 0 } = some (.slice ao an ac) ∧ z.cell? { block := w.heap.size, off := 1 } = some (.slice (some ma) n mc) ∧ z.cell? { block := w.heap.size, off := 2 } = some (.slice (some pa) q pc) ∧ z.cell? r1 = some (.string x.name) ∧ z.cell? { block := r1.block, off := r1.off + 1 } = some (.slice uo x.uses.length uc) ∧ z.cell? { block := r1.block, off := r1.off + 2 } = some (.slice vo x.vars.length vc) ∧ z.cell? { block := r1.block, off := r1.off + 3 } = some (.int .i64 x.body) ∧ z.cell? r2 = some (.string y.name) ∧ Hid (UsZ W1 z)) → UsZ W1 z) := fun z hz => hz.2.2.2.2.2.2.2.2.out
      have KP : Hid (∀ z z', (z.cell? { block := w.heap.size, off := 0 } = some (.slice ao an ac) ∧ z.cell? { block := w.heap.size, off := 1 } = some (.slice (some ma) n mc) ∧ z.cell? { block := w.heap.size, off := 2 } = some (.slice (some pa) q pc) ∧ z.cell? r1 = some (.string x.name) ∧ z.cell? { block := r1.block, off := r1.off + 1 } = some (.slice uo x.uses.length uc) ∧ z.cell? { block := r1.block, off := r1.off + 2 } = some (.slice vo x.vars.length vc) ∧ z.cell? { block := r1.block, off := r1.off + 3 } = some (.int .i64 x.body) ∧ z.cell? r2 = some (.string y.name) ∧ Hid (UsZ W1 z)) → Below z.heap.size z z' → (z'.cell? { block := w.heap.size, off := 0 } = some (.slice ao an ac) ∧ z'.cell? { block := w.heap.size, off := 1 } = some (.slice (some ma) n mc) ∧ z'.cell? { block := w.heap.size, off := 2 } = some (.slice (some pa) q pc) ∧ z'.cell? r1 = some (.string x.name) ∧ z'.cell? { block := r1.block, off := r1.off + 1 } = some (.slice uo x.uses.length uc) ∧ z'.cell? { block := r1.block, off := r1.off + 2 } = some (.slice vo x.vars.length vc) ∧ z'.cell? { block := r1.block, off := r1.off + 3 } = some (.int .i64 x.body) ∧ z'.cell? r2 = some (.string y.name) ∧ Hid (UsZ W1 z'))) := fun z z' hz hb => KC.out _ ((KV.out _ hz).stays hb)
      have K0 := hide (KC.out _ (Z4.out.stays (Below.refl _ _).drew))
      go_region_held3 (fun z => z.cell? { block := w.heap.size, off := 0 } = some (.slice ao an ac) ∧ z.cell? { block := w.heap.size, off := 1 } = some (.slice (some ma) n mc) ∧ z.cell? { block := w.heap.size, off := 2 } = some (.slice (some pa) q pc) ∧ z.cell? r1 = some (.string x.name) ∧ z.cell? { block := r1.block, off := r1.off + 1 } = some (.slice uo x.uses.length uc) ∧ z.cell? { block := r1.block, off := r1.off + 2 } = some (.slice vo x.vars.length vc) ∧ z.cell? { block := r1.block, off := r1.off + 3 } = some (.int .i64 x.body) ∧ z.cell? r2 = some (.string y.name) ∧ Hid (UsZ W1 z)) (first | exact K0.out | exact KP.out _ _ (by assumption) hb7 | assumption) ((first
        | (go_at_call 26; refine (unhide (CR _ (HU.out.stays (KV.out _ (by assumption)).bel))).mono ?_; rintro e w7 ⟨bm, nn, rfl, hrt7, hb7⟩; have hL := hrt7.look hnm; rw [EBT.out] at hL; clear hrt7)
        | (go_at_call 27; refine (unhide (CH _)).mono ?_; rintro e w8 ⟨rfl, rfl⟩)))
      all_goals (have D := hide (KV.out _ (by assumption)))
      all_goals go_wp2
      all_goals go_ret
      all_goals exact ⟨rfl, HB.out.trans (D.out.bel.mono HB.out.size)⟩
end Go.Proofs.Ytpdpmnkonkpheaa
