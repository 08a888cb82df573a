/-
  Walks of the program: the names of a monitor's entries; whether all that is used are monitors.
-/
import Derived.Test.YtenhmecbebibkaaGreatImpS
import Derived.Test.YtenhmecbebibkaaGreatScoV
import Derived.Test.YtenhmecbebibkaaGreatNamW
namespace Go.Proofs.YtenhmecbebibkaaGreat
open Go.RowKit

theorem OwnS.low {a b : Nat} {v : Value} {l : List ByteArray} {w : World} (h : OwnS b v l w) (hab : a ≤ b) : OwnS a v l w := by
  obtain ⟨h1, h2⟩ := h
  refine ⟨h1, ?_⟩
  rcases h2 with h2 | ⟨g, cap, cur, rfl, hb1, r⟩
  · exact .inl h2
  · exact .inr ⟨g, cap, cur, rfl, Nat.le_trans hab hb1, r⟩
def EnrR (w W1 : World) (n : Nat) (L : Nat → List ByteArray) (v iv : Value) (wr : World) : Prop :=
  ∃ i : Nat, i ≤ n ∧ iv = .int .i64 i ∧ Hid (OwnS (w.heap.size + 1) v (L i) wr) ∧ Hid (Below W1.heap.size W1 wr)

set_option maxRecDepth 100000 in
set_option maxHeartbeats 4000000 in
theorem entryNames_any (nm : ByteArray) (vv qv ev : Value) (es : List En) (w : World) (hV : SlV vv) (hQ : SlV qv) (hE : EnsAt w ev es) (hl : es.length ≤ 1048576) :
    Calls Tryz.prog 58 #[.agg #[.string nm, vv, qv, ev]] w fun e w' => ∃ v, e = .returned v ∧ OwnS w.heap.size v (es.map En.name) w' ∧ Below w.heap.size w w' := by
  have hb1 : Below w.heap.size w (w.alloc (.cells #[.string nm, vv, qv, ev] 54)) := (Below.refl _ _).alloc (Nat.le_refl _) _
  have HE := hide (hE.stays hb1)
  have HB := hide hb1
  have HX := hide (Box.made w #[.string nm, vv, qv, ev] 54)
  obtain ⟨vo, vn, vc, rfl⟩ := hV
  obtain ⟨qo, qn, qc, rfl⟩ := hQ
  obtain ⟨eo, ec, rfl, _⟩ := hE
  clear hb1
  have HS : Hid ((w.alloc (.cells #[.string nm, .slice vo vn vc, .slice qo qn qc, .slice eo es.length ec] 54)).heap.size = w.heap.size + 1) := by show _ = _; simp
  obtain ⟨n, en⟩ : ∃ n, es.length = n := ⟨_, rfl⟩
  have EN := hide en
  rw [en] at HE HB HX HS hl ⊢
  clear en
  go_enter Tryz.func58, Tryz.ntmps58
  go_wp2
  obtain ⟨W1, hW⟩ : ∃ W1, w.alloc (.cells #[.string nm, .slice vo vn vc, .slice qo qn qc, .slice eo n ec] 54) = W1 := ⟨_, rfl⟩
  rw [hW] at HE HX HB HS ⊢
  clear hW
  go_loopw [3, 10] (EnrR w W1 n (fun i => (es.take i).map En.name)) (fun _ iv _ => n - (intOf iv).toNat)
  case atStart => exact ⟨0, by omega, rfl, by
    have := ownsRow_empty W1 (w.heap.size + 1) 9 (by rw [HS.out]; exact Nat.le_refl _)
    rw [HS.out] at this
    exact this, (Below.refl _ _).alloc (Nat.le_refl _) _⟩
  case round =>
    obtain ⟨i, hi, rfl, HO, HB2⟩ := hrel
    dsimp only at HO
    by_cases hlt : i < n
    · have hlt' : (i : Int) < (n : Int) := by omega
      have hi0 : (0 : Int) ≤ (i : Int) := by omega
      have hix : i < es.length := by rw [EN.out]; exact hlt
      have HNX : Hid ((es.take (i + 1)).map En.name = (es.take i).map En.name ++ [es[i].name]) := by show _ = _; rw [List.take_succ_eq_append_getElem hix, List.map_append]; rfl
      have HLL : Hid (((es.take i).map En.name).length ≤ 1048576) := by show _ ≤ _; rw [List.length_map, List.length_take, EN.out]; omega
      obtain ⟨eo', ec', e5, hec⟩ := HE.out.stays HB2.out
      injection e5 with e6 e7 e8
      subst e6
      obtain ⟨b, rfl, hbb, hy⟩ := hec i hix
      obtain ⟨r, hra⟩ : ∃ r, b.add (i * 3) = r := ⟨_, rfl⟩
      rw [hra] at hy
      obtain ⟨x, ex⟩ : ∃ x, es[i] = x := ⟨_, rfl⟩
      rw [ex] at hy HNX
      obtain ⟨d0, d1, d2⟩ := hy
      clear ex hec e7 e8 hbb
      obtain ⟨L, eL⟩ : ∃ L, (es.take i).map En.name = L := ⟨_, rfl⟩
      rw [eL] at HO HNX HLL
      clear eL hix
      have HOA := hide (HO.out.alloc (.cells #[.string x.name, .string x.param, .int .i64 x.body] 81))
      have HBA : Hid (Below W1.heap.size W1 (wr.alloc (.cells #[.string x.name, .string x.param, .int .i64 x.body] 81))) := HB2.out.alloc HB2.out.size _
      have hwz : w.heap.size + 1 ≤ (wr.alloc (.cells #[.string x.name, .string x.param, .int .i64 x.body] 81)).heap.size := by rw [← HS.out]; exact HBA.out.size
      go_wp2_with (at_builtin; refine wpList_app_new (g := wr.heap.size + 1) (by simp) rfl (.tmp 14) (.tmp 17) 51 rfl (w.heap.size + 1) 9 (.string ⟨#[]⟩) 16 Tryz.underlying51 Tryz.infoStr rfl _ L.length _ _ rfl HOA.out 1 rfl rfl (by intro u hu; simp at hu; subst hu; rfl) (by have := HLL.out; unfold maxLen; omega) (by have := HLL.out; omega) hwz ?_)
      intro v1 w1 hown1 hb1 hk1
      have O1 : Hid (OwnS (w.heap.size + 1) v1 ((es.take (i + 1)).map En.name) w1) := by
        rw [HNX.out]
        exact OwnS.more (k := [x.name]) hown1
      have B1 : Hid (Below W1.heap.size W1 w1) := HBA.out.trans (by rw [HS.out]; exact hb1)
      clear hown1 hb1 hk1 HOA HBA hwz HO d0 d1 d2 HB2
      go_wp2
      go_roundw
      case rel => exact ⟨i + 1, by omega, by go_num, O1.out, B1.out⟩
      case measure => simp [intOf]; omega
    · have hlt' : ¬ (i : Int) < (n : Int) := by omega
      have e9 : es.take i = es := List.take_of_length_le (by rw [EN.out]; omega)
      rw [e9] at HO
      go_wp2
      go_ret
      exact ⟨_, rfl, HO.out.low (Nat.le_succ _), HB.out.trans (HB2.out.mono HB.out.size)⟩
end Go.Proofs.YtenhmecbebibkaaGreat

namespace Go.Proofs.YtenhmecbebibkaaGreat
open Go.RowKit

def useB (ms : List Mo) (p : Pr) : Bool := p.uses.all fun u => decide (0 ≤ firstAt (monN u) ms)
def usesB (ms : List Mo) (ps : List Pr) : Bool := ps.all (useB ms)
theorem useB_no {ms : List Mo} {ps : List Pr} {i j : Nat} (hi : i < ps.length) (hj : j < ps[i].uses.length) (h : firstAt (monN ps[i].uses[j]) ms < 0) : usesB ms ps = false :=
  allB_no hi (allB_no (f := fun u => decide (0 ≤ firstAt (monN u) ms)) hj (decide_eq_false (by omega)))
theorem useB_yes {ms : List Mo} {p : Pr} (h : ∀ i (hi : i < p.uses.length), ¬ firstAt (monN p.uses[i]) ms < 0) : useB ms p = true :=
  allB_yes (f := fun u => decide (0 ≤ firstAt (monN u) ms)) fun i hi => decide_eq_true (by have := h i hi; omega)

set_option maxRecDepth 100000 in
set_option maxHeartbeats 4000000 in
theorem usesMonitors_any (nv mv pv : Value) (ms : List Mo) (ps : List Pr) (w : World) (hN : SlV nv) (hM : MosAt w mv ms) (hP : PrsAt w pv ps) (hml : ms.length ≤ 1048576) (hpl : ps.length ≤ 1048576) (hpi : ∀ p ∈ ps, p.uses.length ≤ 1048576) :
    Calls Tryz.prog 21 #[.agg #[nv, mv, pv]] w fun e w' => e = .returned (.bool (usesB ms ps)) ∧ Below w.heap.size w w' := by
  have hb1 : Below w.heap.size w (w.alloc (.cells #[nv, mv, pv] 33)) := (Below.refl _ _).alloc (Nat.le_refl _) _
  have HM := hide (hM.stays hb1)
  have HP := hide (hP.stays hb1)
  have HX := hide (Boxed.made w nv mv pv 33)
  have HB := hide hb1
  have HPI := hide hpi
  have CM := fun s z h => hide (implMonitorAt_any nv mv pv ms s z hN h hP.sl hml)
  clear hb1 hpi
  obtain ⟨ao, c, rfl, _⟩ := hM
  obtain ⟨bo, d, rfl, _⟩ := hP
  obtain ⟨on, nn, cn, rfl⟩ := hN
  obtain ⟨R, eR⟩ : ∃ R, usesB ms ps = R := ⟨_, rfl⟩
  have ER := hide eR
  rw [eR]
  clear eR
  go_enter Tryz.func21, Tryz.ntmps21
  go_wp2
  obtain ⟨W1, hW⟩ : ∃ W1, w.alloc (.cells #[.slice on nn cn, .slice ao ms.length c, .slice bo ps.length d] 33) = W1 := ⟨_, rfl⟩
  rw [hW] at HM HP HX HB ⊢
  clear hW
  obtain ⟨q, eq⟩ : ∃ q, ps.length = q := ⟨_, rfl⟩
  have EQ := hide eq
  simp only [eq] at CM
  rw [eq] at HP hpl HX ⊢
  clear eq
  go_loopw [10] (UsR W1 q (fun j => ∀ h : j < ps.length, useB ms ps[j] = true)) (fun iv _ => q - (intOf iv).toNat)
  case atStart => exact ⟨0, by omega, rfl, Below.refl _ _, fun j hj => absurd hj (Nat.not_lt_zero j)⟩
  case round =>
    obtain ⟨i, hi, rfl, HB2, HG⟩ := hrel
    by_cases hlt : i < q
    · have hlt' : (i : Int) < (q : Int) := by omega
      have hi0 : (0 : Int) ≤ (i : Int) := by omega
      have hix : i < ps.length := by rw [EQ.out]; exact hlt
      have HUL := hide (HPI.out _ (List.getElem_mem hix))
      obtain ⟨ao', cc, e5, hc⟩ := HP.out
      injection e5 with e6 e7 e8
      subst e6
      obtain ⟨a, uv, vv, rfl, hab, hcell⟩ := hc i hix
      have hcell2 := hcell.stays HB2.out (by rw [block_add]; exact hab)
      have HV1 := hide hcell2.uses
      obtain ⟨p, hpa⟩ : ∃ p, a.add (i * 4) = p := ⟨_, rfl⟩
      rw [hpa] at hcell2
      have HGOOD : Hid (useB ms ps[i] = true → ∀ j, j < i + 1 → ∀ h : j < ps.length, useB ms ps[j] = true) := fun h j hj hj2 => by
        by_cases e : j = i
        · subst e; exact h
        · exact HG.out j (by omega) hj2
      obtain ⟨x, ex⟩ : ∃ x, ps[i] = x := ⟨_, rfl⟩
      have HBAD : Hid (∀ j (hj : j < x.uses.length), firstAt (monN x.uses[j]) ms < 0 → R = false) := fun j hj h => by subst ex; rw [← ER.out]; exact useB_no hix hj h
      rw [ex] at HUL hcell2 HV1 HGOOD
      obtain ⟨d0, d1, d2, d3, hv1, hv2⟩ := hcell2
      obtain ⟨uo, uc, rfl, _⟩ := hv1
      obtain ⟨vo, vc, rfl, _⟩ := hv2
      clear ex hc e7 e8 hcell hix HG
      have HBA : Hid (Below W1.heap.size W1 (wr.alloc (.cells #[.string x.name, .slice uo x.uses.length uc, .slice vo x.vars.length vc, .int .i64 x.body] 57))) := HB2.out.alloc HB2.out.size _
      have HV2 := hide (HV1.out.stays ((Below.refl wr.heap.size wr).alloc (Nat.le_refl _) (.cells #[.string x.name, .slice uo x.uses.length uc, .slice vo x.vars.length vc, .int .i64 x.body] 57)))
      obtain ⟨m, em⟩ : ∃ m, x.uses.length = m := ⟨_, rfl⟩
      have EM := hide em
      rw [em] at HUL HV2 HBA d1
      have hm : m ≤ 1048576 := HUL.out
      clear HV1
      go_wp2
      obtain ⟨w1, hW1⟩ : ∃ w1, wr.alloc (.cells #[.string x.name, .slice uo m uc, .slice vo x.vars.length vc, .int .i64 x.body] 57) = w1 := ⟨_, rfl⟩
      rw [hW1] at HV2 HBA ⊢
      clear hW1 d0 d1 d2 d3 em HB2
      go_loopw [17] (UsR w1 m (fun j => ∀ h : j < x.uses.length, ¬ firstAt (monN x.uses[j]) ms < 0)) (fun iv _ => m - (intOf iv).toNat)
      case atStart => exact ⟨0, by omega, rfl, Below.refl _ _, fun j hj => absurd hj (Nat.not_lt_zero j)⟩
      case round =>
        obtain ⟨j, hj, rfl, HB4, HG4⟩ := hrel
        have HB5 : Hid (Below W1.heap.size W1 wr) := HBA.out.trans (HB4.out.mono HBA.out.size)
        obtain ⟨c0, c1, c2, _⟩ := HX.out.stays HB5.out
        by_cases hlt2 : j < m
        · have hlt2' : (j : Int) < (m : Int) := by omega
          have hj0 : (0 : Int) ≤ (j : Int) := by omega
          have hjx : j < x.uses.length := by rw [EM.out]; exact hlt2
          obtain ⟨eo', ec', e5, hec⟩ := HV2.out.stays HB4.out
          injection e5 with e6 e7 e8
          subst e6
          obtain ⟨b, rfl, hbb, hy⟩ := hec j hjx
          have HBAD2 := hide (HBAD.out j hjx)
          have HGOOD2 : Hid (¬ firstAt (monN x.uses[j]) ms < 0 → ∀ k, k < j + 1 → ∀ h : k < x.uses.length, ¬ firstAt (monN x.uses[k]) ms < 0) := fun h k hk hk2 => by
            by_cases e : k = j
            · subst e; exact h
            · exact HG4.out k (by omega) hk2
          obtain ⟨u, eu⟩ : ∃ u, x.uses[j] = u := ⟨_, rfl⟩
          rw [eu] at hy HBAD2 HGOOD2
          have CM1 := fun z h => CM u z h
          obtain ⟨fi, efi⟩ : ∃ fi, firstAt (monN u) ms = fi := ⟨_, rfl⟩
          rw [efi] at CM1 HBAD2 HGOOD2
          clear hec eu e7 e8 hbb HG4 hjx efi
          by_cases hfi : fi < 0
          · have eR2 : R = false := HBAD2.out hfi
            subst eR2
            go_wp2_with (go_at_call 51; refine (unhide (CM1 _ (HM.out.stays HB5.out))).mono ?_; rintro e w7 ⟨rfl, hb7⟩)
            go_ret
            exact ⟨rfl, HB.out.trans ((HB5.out.trans (hb7.mono HB5.out.size)).mono HB.out.size)⟩
          · have GG := hide (HGOOD2.out hfi)
            go_wp2_with (go_at_call 51; refine (unhide (CM1 _ (HM.out.stays HB5.out))).mono ?_; rintro e w7 ⟨rfl, hb7⟩)
            have D := hide (HB4.out.trans (hb7.mono HB4.out.size))
            clear hb7
            go_roundw
            case rel => exact ⟨j + 1, by omega, by go_num, D.out, fun k hk h => by have := GG.out k hk h; omega⟩
            case measure => simp [intOf]; omega
        · have hlt2' : ¬ (j : Int) < (m : Int) := by omega
          have GG := hide (HGOOD.out (useB_yes fun k hk => HG4.out k (by have := hk; rw [EM.out] at this; omega) hk))
          clear HG4
          go_wp2
          go_roundw
          case rel => exact ⟨i + 1, by omega, by go_num, HB5.out, GG.out⟩
          case measure => simp [intOf]; omega
    · have hlt' : ¬ (i : Int) < (q : Int) := by omega
      have eR2 : R = true := by
        rw [← ER.out]
        exact allB_yes fun k hk => HG.out k (by have := hk; rw [EQ.out] at this; omega) hk
      subst eR2
      go_wp2
      go_ret
      exact ⟨rfl, HB.out.trans (HB2.out.mono HB.out.size)⟩
end Go.Proofs.YtenhmecbebibkaaGreat
