/-
  Walks: a right program, by the specification.
-/
import Derived.Test.YtdfahpachbhglaaGreatDoorCntP
import Derived.Test.YtdfahpachbhglaaGreatDoorTreeM
import Derived.Test.YtdfahpachbhglaaGreatDoorTreeD
import Derived.Test.YtdfahpachbhglaaGreatDoorImpD
import Derived.Test.YtdfahpachbhglaaGreatDoorLawW
import Derived.Test.YtdfahpachbhglaaGreatDoorLawN
import Derived.Test.YtdfahpachbhglaaGreatDoorImpA
namespace Go.Proofs.YtdfahpachbhglaaGreatDoor
open Go.RowKit

def deepQ (d : Int) : Bool := inZ 1 10 d
def bodyQ (ns : List Nd) (b : Int) : Bool := inZ 0 ((ns.length : Int) - 1) b && decide ((ns.getD b.toNat default).kind = 20)
/-- Is a program right, by the specification? -/
def specProgB (x : Pg) : Bool :=
  decide (x.nodes.length ≤ 160) && listsB x.mons x.pros && ((deepsTo x.nodes x.nodes.length).all deepQ && ((bodiesL x.mons x.pros).all (bodyQ x.nodes) && onceB x.nodes.length (bodiesL x.mons x.pros ++ allKids x.nodes)))

theorem deepsTo_at (ns : List Nd) {k : Nat} : ∀ n, k < n → (deepsTo ns n).getD k 0 = cutDeep (deepsTo ns k) k (kidsDeep ns (deepsTo ns k) k)
  | 0, h => absurd h (Nat.not_lt_zero k)
  | n + 1, h => by
    rcases Nat.lt_succ_iff_lt_or_eq.1 h with h | h
    · have e : (deepsTo ns (n + 1)).getD k 0 = (deepsTo ns n).getD k 0 := by
        simp [deepsTo, List.getD_eq_getElem?_getD, List.getElem?_append_left (show k < (deepsTo ns n).length by rw [deepsTo_len]; exact h)]
      rw [e, deepsTo_at ns n h]
    · subst h
      simp [deepsTo, List.getD_eq_getElem?_getD, deepsTo_len]
/-- Where all are deep, all are right. -/
theorem deep_right {ns : List Nd} (h : (deepsTo ns ns.length).all deepQ = true) {k : Nat} (hk : k < ns.length) : nodeB ns[k] (kinds ns k) = true := by
  have h1 : (deepsTo ns ns.length).getD k 0 = (deepsTo ns ns.length)[k]'(by rw [deepsTo_len]; exact hk) := by
    simp [List.getD_eq_getElem?_getD, List.getElem?_eq_getElem (show k < (deepsTo ns ns.length).length by rw [deepsTo_len]; exact hk)]
  have h2 := List.all_eq_true.1 h _ (List.getElem_mem (show k < (deepsTo ns ns.length).length by rw [deepsTo_len]; exact hk))
  rw [← h1, deepsTo_at ns ns.length hk] at h2
  have h3 := (inZ_yes.1 h2).1
  cases hn : nodeB ns[k] (kinds ns k) with
  | true => rfl
  | false =>
    have e : kidsDeep ns (deepsTo ns k) k = 0 := by
      rw [kidsDeep, getD_at hk, hn]
      rfl
    rw [e, cutDeep] at h3
    split at h3 <;> omega
theorem deep_kids {ns : List Nd} (h : (deepsTo ns ns.length).all deepQ = true) : ∀ x ∈ ns, ∀ y ∈ x.kids, 0 ≤ y ∧ y < (ns.length : Int) := by
  intro x hx y hy
  obtain ⟨k, hk, rfl⟩ := List.getElem_of_mem hx
  obtain ⟨i, hi, rfl⟩ := List.getElem_of_mem hy
  have := nodeB_ahead hk (deep_right h hk) i hi
  omega

set_option maxRecDepth 100000 in
set_option maxHeartbeats 4000000 in
theorem specProgramOk_any (nv mv pv : Value) (x : Pg) (w : World) (hN : NdsAt w nv x.nodes) (hM : MosAt w mv x.mons) (hP : PrsAt w pv x.pros) (hL : PgLen x) (hin : NsIn x.nodes) (hmi : ∀ m ∈ x.mons, MoIn m) (hpi : ∀ p ∈ x.pros, PrIn p) (hkl : (allKids x.nodes).length ≤ 1048576) (hbl : (bodiesL x.mons x.pros).length ≤ 1048576) :
    Calls Tryz.prog 12 #[.agg #[nv, mv, pv]] w fun e w' => e = .returned (.bool (specProgB x)) ∧ Below w.heap.size w w' := by
  have hb1 : Below w.heap.size w (w.alloc (.cells #[nv, mv, pv] 34)) := (Below.refl _ _).alloc (Nat.le_refl _) _
  have HN := hide (hN.stays hb1)
  have HM := hide (hM.stays hb1)
  have HP := hide (hP.stays hb1)
  have HX := hide (Boxed.made w nv mv pv 34)
  have HB := hide hb1
  have CL := fun w h1 h2 => hide (l05Lists_any nv mv pv x.mons x.pros w h1 h2 hL.ml hL.pl hmi hpi)
  have CD := fun w h => hide (l05Deeps_any nv mv pv x.nodes w h hL.nl hin)
  have CB := fun w h1 h2 => hide (l05Bodies_any nv mv pv x.mons x.pros w h1 h2 hbl hL.ml hL.pl (fun m hm => (hL.mon m hm).2.2))
  have CU := fun w h0 h1 h2 hK => hide (l05Used_any nv mv pv x.nodes x.mons x.pros w h0 h1 h2 hL.nl hbl hL.ml hL.pl (fun m hm => (hL.mon m hm).2.2) hkl hL.kids hK)
  have hnl := hL.nl
  clear hb1 hin hmi hpi hL hkl
  obtain ⟨ao, c, rfl, _⟩ := hN
  obtain ⟨mo, mc, rfl, _⟩ := hM
  obtain ⟨po, pc, rfl, _⟩ := hP
  obtain ⟨n, en⟩ : ∃ n, x.nodes.length = n := ⟨_, rfl⟩
  have EN := hide en
  have HU : Hid (specProgB x = (decide (n ≤ 160) && listsB x.mons x.pros && ((deepsTo x.nodes n).all deepQ && ((bodiesL x.mons x.pros).all (bodyQ x.nodes) && onceB n (bodiesL x.mons x.pros ++ allKids x.nodes))))) := by show _ = _; rw [specProgB, en]
  have HKK : Hid ((deepsTo x.nodes n).all deepQ = true → ∀ y ∈ x.nodes, ∀ z ∈ y.kids, 0 ≤ z ∧ z < (n : Int)) := by rw [← en]; exact deep_kids
  simp only [en] at HN HM HP HX HB CL CD CB CU hnl ⊢
  clear en
  by_cases h160 : n ≤ 160
  case neg =>
    have h160' : (160 : Int) < (n : Int) := by omega
    have HF : Hid (specProgB x = false) := by show _ = _; rw [HU.out]; simp [h160]
    go_enter Tryz.func12, Tryz.ntmps12
    go_wp2
    go_ret
    exact ⟨by rw [HF.out]; rfl, HB.out⟩
  have h160' : ¬ (160 : Int) < (n : Int) := by omega
  cases hls : listsB x.mons x.pros with
  | false =>
    have HF : Hid (specProgB x = false) := by show _ = _; rw [HU.out, hls]; simp
    rw [hls] at CL
    clear hls
    go_enter Tryz.func12, Tryz.ntmps12
    go_wp2_with (go_at_call 28; refine (unhide (CL _ HM.out HP.out)).mono ?_; rintro e w2 ⟨rfl, hb2⟩; have HB2 := hide (HB.out.trans (hb2.mono HB.out.size)); clear hb2)
    go_ret
    exact ⟨by rw [HF.out]; rfl, HB2.out⟩
  | true =>
    have HV : Hid (specProgB x = ((deepsTo x.nodes n).all deepQ && ((bodiesL x.mons x.pros).all (bodyQ x.nodes) && onceB n (bodiesL x.mons x.pros ++ allKids x.nodes)))) := by show _ = _; rw [HU.out, hls]; simp [h160]
    rw [hls] at CL
    clear hls HU
    go_enter Tryz.func12, Tryz.ntmps12
    go_wp2_with fail
    obtain ⟨W1, hW⟩ : ∃ W1, w.alloc (.cells #[.slice ao n c, .slice mo x.mons.length mc, .slice po x.pros.length pc] 34) = W1 := ⟨_, rfl⟩
    rw [hW] at HN HM HP HX HB ⊢
    clear hW
    refine (unhide (CL _ HM.out HP.out)).mono ?_
    rintro e w2 ⟨rfl, hb2⟩
    have B2 := hide hb2
    obtain ⟨c0, c1, c2, _⟩ := HX.out.stays hb2
    clear hb2 CL
    go_wp2_with fail
    refine (unhide (CD _ (HN.out.stays B2.out))).mono ?_
    rintro e w3 ⟨dv, rfl, hown3, hb3⟩
    have B3 := hide (B2.out.trans (hb3.mono B2.out.size))
    have DI : Hid (IntsAt w3 dv (deepsTo x.nodes n)) := IntsIn.at (CellsIn.own hown3)
    obtain ⟨do_, dc, rfl, _⟩ := DI.out
    rw [deepsTo_len] at DI ⊢
    clear hown3 hb3 CD c0 c1 c2
    obtain ⟨ds, eds⟩ : ∃ ds, deepsTo x.nodes n = ds := ⟨_, rfl⟩
    have EDS : Hid (ds.length = n) := by show _ = _; rw [← eds]; exact deepsTo_len _ _
    rw [eds] at DI HV HKK
    clear eds
    go_wp2
    go_loopw [4] (LstR w3 ds deepQ) (fun iv _ => n - (intOf iv).toNat)
    case atStart => exact ⟨0, by omega, rfl, Below.refl _ _, fun j y hj => absurd hj (Nat.not_lt_zero j)⟩
    case round =>
      obtain ⟨i, hi, rfl, HB4, HA⟩ := hrel
      rw [EDS.out] at hi
      by_cases hlt : i < n
      · have hlt' : (i : Int) < (n : Int) := by omega
        have hi0 : (0 : Int) ≤ (i : Int) := by omega
        have hix : i < ds.length := by rw [EDS.out]; exact hlt
        obtain ⟨do', dc', e5, hdc⟩ := DI.out.stays HB4.out
        injection e5 with e6 e7 e8
        subst e6
        obtain ⟨b, rfl, _, hy⟩ := hdc i hix
        have EX : Hid (ds[i]? = some ds[i]) := List.getElem?_eq_getElem hix
        obtain ⟨y, ey⟩ : ∃ y, ds[i] = y := ⟨_, rfl⟩
        rw [ey] at hy EX
        clear ey hdc e7 e8
        have CI := fun w => hide (l01In_gen y 1 10 w)
        have EQ : deepQ y = inZ 1 10 y := rfl
        cases hq : inZ 1 10 y with
        | true =>
          rw [hq] at CI
          have HT : Hid (deepQ y = true) := EQ.trans hq
          clear hq EQ
          go_wp2_with (go_at_call 30; refine (unhide (CI _)).mono ?_; rintro e w5 ⟨rfl, rfl⟩)
          go_roundw
          case rel => exact ⟨i + 1, by rw [EDS.out]; omega, by go_num, HB4.out, LstR.next HA.out EX.out HT.out⟩
          case measure => simp [intOf]; omega
        | false =>
          rw [hq] at CI
          have HF : Hid (specProgB x = false) := by show _ = _; rw [HV.out, all_no EX.out (EQ.trans hq)]; rfl
          clear hq EQ
          go_wp2_with (go_at_call 30; refine (unhide (CI _)).mono ?_; rintro e w5 ⟨rfl, rfl⟩)
          go_ret
          exact ⟨by rw [HF.out]; rfl, HB.out.trans ((B3.out.trans (HB4.out.mono B3.out.size)).mono HB.out.size)⟩
      · have hlt' : ¬ (i : Int) < (n : Int) := by omega
        have hall : ds.all deepQ = true := LstR.all HA.out (by rw [EDS.out]; omega)
        have HK := hide (HKK.out hall)
        rw [hall, Bool.true_and] at HV
        clear hall HKK
        have B4 := hide (B3.out.trans (HB4.out.mono B3.out.size))
        obtain ⟨c0, c1, c2, _⟩ := HX.out.stays B4.out
        go_wp2_with fail
        refine (unhide (CB _ (HM.out.stays B4.out) (HP.out.stays B4.out))).mono ?_
        rintro e w6 ⟨bv, rfl, hown6, hb6⟩
        have B6 := hide (B4.out.trans (hb6.mono B4.out.size))
        have BI : Hid (IntsAt w6 bv (bodiesL x.mons x.pros)) := IntsIn.at (CellsIn.own hown6)
        obtain ⟨bo, bc, rfl, _⟩ := BI.out
        clear hown6 hb6 CB c0 c1 c2
        obtain ⟨bs, ebs⟩ : ∃ bs, bodiesL x.mons x.pros = bs := ⟨_, rfl⟩
        simp only [ebs] at BI HV CU hbl ⊢
        clear ebs
        obtain ⟨m, em⟩ : ∃ m, bs.length = m := ⟨_, rfl⟩
        have EM := hide em
        rw [em] at BI hbl ⊢
        clear em
        go_wp2
        go_loopw [6] (LstR w6 bs (bodyQ x.nodes)) (fun iv _ => m - (intOf iv).toNat)
        case atStart => exact ⟨0, by omega, rfl, Below.refl _ _, fun j y hj => absurd hj (Nat.not_lt_zero j)⟩
        case round =>
          obtain ⟨i, hi, rfl, HB7, HA7⟩ := hrel
          rw [EM.out] at hi
          have B7 := hide (B6.out.trans (HB7.out.mono B6.out.size))
          obtain ⟨c0, c1, c2, _⟩ := HX.out.stays B7.out
          by_cases hlt : i < m
          · have hlt' : (i : Int) < (m : Int) := by omega
            have hi0 : (0 : Int) ≤ (i : Int) := by omega
            have hix : i < bs.length := by rw [EM.out]; exact hlt
            obtain ⟨bo', bc', e5, hbc⟩ := BI.out.stays HB7.out
            injection e5 with e6 e7 e8
            subst e6
            obtain ⟨b, rfl, _, hy⟩ := hbc i hix
            have EX : Hid (bs[i]? = some bs[i]) := List.getElem?_eq_getElem hix
            obtain ⟨y, ey⟩ : ∃ y, bs[i] = y := ⟨_, rfl⟩
            rw [ey] at hy EX
            clear ey hbc e7 e8
            have CI := fun w => hide (l01In_gen y 0 ((n : Int) - 1) w)
            have hwr : IntKind.i64.wrap ((n : Int) - 1) = (n : Int) - 1 := IntWalk.i64_in _ (by omega)
            cases hq : inZ 0 ((n : Int) - 1) y with
            | false =>
              rw [hq] at CI
              have HF : Hid (specProgB x = false) := by show _ = _; rw [HV.out, all_no EX.out (by rw [bodyQ, EN.out, hq]; rfl)]; rfl
              clear hq
              go_wp2
              go_quiet ((go_at_call 30; exact Calls.quiet_of_same (unhide (CI _))))
              all_goals go_wp2
              all_goals go_ret
              all_goals exact ⟨by rw [HF.out]; rfl, HB.out.trans ((below_drewN B7.out _).mono HB.out.size)⟩
            | true =>
              obtain ⟨hy0, hy1⟩ := inZ_yes.1 hq
              obtain ⟨t, ht⟩ : ∃ t : Nat, y = (t : Int) := ⟨y.toNat, by omega⟩
              subst ht
              have htn : t < x.nodes.length := by rw [EN.out]; omega
              have htn' : (t : Int) < (n : Int) := by omega
              obtain ⟨a', cc', p, kv, e5, hpa, hpb, hnode⟩ := (HN.out.stays B7.out).node t htn
              injection e5 with e6 e7 e8
              subst e6
              have d0 := hnode.c0
              have EQ : Hid (bodyQ x.nodes (t : Int) = decide (x.nodes[t].kind = 20)) := by show _ = _; rw [bodyQ, EN.out, hq, Int.toNat_natCast, getD_at htn]; rfl
              rw [hq] at CI
              obtain ⟨kd, ekd⟩ : ∃ kd, x.nodes[t].kind = kd := ⟨_, rfl⟩
              rw [ekd] at d0 EQ
              clear hq hnode ekd e7 e8
              by_cases hkd : kd = 20
              · subst hkd
                have HT : Hid (bodyQ x.nodes (t : Int) = true) := by show _ = _; rw [EQ.out]; rfl
                go_wp2
                go_region_held3 (fun z => z.cell? (b.add i) = some (.int .i64 (t : Int)) ∧ z.cell? ⟨w.heap.size, 0, none⟩ = some (.slice (some a') n c) ∧ z.cell? p = some (.int .i64 20)) (go_keep) ((go_at_call 30; refine (unhide (CI _)).mono ?_; rintro e w8 ⟨rfl, rfl⟩))
                all_goals go_wp2
                all_goals go_roundw
                case rel => exact ⟨i + 1, by rw [EM.out]; omega, by go_num, HB7.out.drew, LstR.next HA7.out EX.out HT.out⟩
                case measure => simp [intOf]; omega
              · have HF : Hid (specProgB x = false) := by show _ = _; rw [HV.out, all_no EX.out (by rw [EQ.out]; simp [hkd])]; rfl
                go_wp2
                go_region_held3 (fun z => z.cell? (b.add i) = some (.int .i64 (t : Int)) ∧ z.cell? ⟨w.heap.size, 0, none⟩ = some (.slice (some a') n c) ∧ z.cell? p = some (.int .i64 kd)) (go_keep) ((go_at_call 30; refine (unhide (CI _)).mono ?_; rintro e w8 ⟨rfl, rfl⟩))
                all_goals go_wp2
                all_goals go_ret
                all_goals exact ⟨by rw [HF.out]; rfl, HB.out.trans (B7.out.drew.mono HB.out.size)⟩
          · have hlt' : ¬ (i : Int) < (m : Int) := by omega
            have hall : bs.all (bodyQ x.nodes) = true := LstR.all HA7.out (by rw [EM.out]; omega)
            rw [hall, Bool.true_and] at HV
            clear hall
            go_wp2_with fail
            refine (unhide (CU _ (HN.out.stays B7.out) (HM.out.stays B7.out) (HP.out.stays B7.out) HK.out)).mono ?_
            rintro e w9 ⟨uv, rfl, hown9, hb9⟩
            have B9 := hide (B7.out.trans (hb9.mono B7.out.size))
            have UI : Hid (IntsAt w9 uv (cnt n (bs ++ allKids x.nodes))) := IntsIn.at (CellsIn.own hown9)
            obtain ⟨uo, uc, rfl, _⟩ := UI.out
            rw [cnt_len] at UI ⊢
            clear hown9 hb9 CU c0 c1 c2
            obtain ⟨us, eus⟩ : ∃ us, cnt n (bs ++ allKids x.nodes) = us := ⟨_, rfl⟩
            have EUS : Hid (us.length = n) := by show _ = _; rw [← eus]; exact cnt_len _ _
            have HV2 : Hid (specProgB x = us.all (fun z => decide (z = 1))) := by show _ = _; rw [HV.out, onceB, eus]
            rw [eus] at UI
            clear eus HV
            go_wp2
            go_loopw [8] (LstR w9 us (fun z => decide (z = 1))) (fun iv _ => n - (intOf iv).toNat)
            case atStart => exact ⟨0, by omega, rfl, Below.refl _ _, fun j y hj => absurd hj (Nat.not_lt_zero j)⟩
            case round =>
              obtain ⟨j, hj, rfl, HB10, HA10⟩ := hrel
              rw [EUS.out] at hj
              by_cases hltj : j < n
              · have hltj' : (j : Int) < (n : Int) := by omega
                have hj0 : (0 : Int) ≤ (j : Int) := by omega
                have hjx : j < us.length := by rw [EUS.out]; exact hltj
                obtain ⟨uo', uc', e5, huc⟩ := UI.out.stays HB10.out
                injection e5 with e6 e7 e8
                subst e6
                obtain ⟨b, rfl, _, hy⟩ := huc j hjx
                have EX : Hid (us[j]? = some us[j]) := List.getElem?_eq_getElem hjx
                obtain ⟨y, ey⟩ : ∃ y, us[j] = y := ⟨_, rfl⟩
                rw [ey] at hy EX
                clear ey huc e7 e8
                by_cases hy1 : y = 1
                · subst hy1
                  go_wp2
                  go_roundw
                  case rel => exact ⟨j + 1, by rw [EUS.out]; omega, by go_num, HB10.out, LstR.next HA10.out EX.out rfl⟩
                  case measure => simp [intOf]; omega
                · have HF : Hid (specProgB x = false) := by show _ = _; rw [HV2.out]; exact all_no EX.out (by simp [hy1])
                  go_wp2
                  go_ret
                  exact ⟨by rw [HF.out]; rfl, HB.out.trans ((B9.out.trans (HB10.out.mono B9.out.size)).mono HB.out.size)⟩
              · have hltj' : ¬ (j : Int) < (n : Int) := by omega
                have HF : Hid (specProgB x = true) := by show _ = _; rw [HV2.out]; exact LstR.all HA10.out (by rw [EUS.out]; omega)
                go_wp2
                go_ret
                exact ⟨by rw [HF.out]; rfl, HB.out.trans ((B9.out.trans (HB10.out.mono B9.out.size)).mono HB.out.size)⟩
end Go.Proofs.YtdfahpachbhglaaGreatDoor

namespace Go.Proofs.YtdfahpachbhglaaGreatDoor
open Go.RowKit

/-- Behind a node without a depth none has one. -/
theorem deep_zero {ns : List Nd} {i : Nat} (h : (deepsTo ns (i + 1)).getD i 0 = 0) : ∀ m, i ≤ m → (deepsTo ns (m + 1)).getD m 0 = 0
  | 0, hm => by
    have : i = 0 := by omega
    subst this
    exact h
  | m + 1, hm => by
    rcases Nat.lt_or_ge m i with h1 | h1
    · have : i = m + 1 := by omega
      subst this
      exact h
    · have h2 := deep_zero h m h1
      rw [deepsTo_at ns (m + 1 + 1) (Nat.lt_succ_self _), cutDeep, if_pos (.inr ⟨Nat.succ_pos _, by rw [Nat.add_sub_cancel]; exact h2⟩)]
def mxDeep (out : List Int) (d x : Int) : Int := if d < out.getD x.toNat 0 then out.getD x.toNat 0 else d
theorem mx_kid (out : List Int) : ∀ (ks : List Int) (d : Int), ks.foldl (kidDeep out) (d + 1) = ks.foldl (mxDeep out) d + 1
  | [], _ => rfl
  | x :: ks, d => by
    have e : kidDeep out (d + 1) x = mxDeep out d x + 1 := by
      unfold kidDeep mxDeep
      split <;> split <;> omega
    rw [List.foldl_cons, List.foldl_cons, e, mx_kid out ks]
theorem mx_in {out : List Int} (h : Deeps out) : ∀ (ks : List Int) (d : Int), 0 ≤ d ∧ d ≤ 10 → 0 ≤ ks.foldl (mxDeep out) d ∧ ks.foldl (mxDeep out) d ≤ 10
  | [], _, hd => hd
  | x :: ks, d, hd => by
    rw [List.foldl_cons]
    refine mx_in h ks _ ?_
    have := h x.toNat
    unfold mxDeep
    split <;> omega
theorem deep_next {ns : List Nd} {i : Nat} (hi : i < ns.length) (hn : nodeB ns[i] (kinds ns i) = true) (hA : ∀ j, j < i → 1 ≤ (deepsTo ns i).getD j 0) :
    cutDeep (deepsTo ns i) i (kidsDeep ns (deepsTo ns i) i) = if ns[i].kids.foldl (mxDeep (deepsTo ns i)) 0 = 10 then 0 else ns[i].kids.foldl (mxDeep (deepsTo ns i)) 0 + 1 := by
  have h1 : kidsDeep ns (deepsTo ns i) i = ns[i].kids.foldl (mxDeep (deepsTo ns i)) 0 + 1 := by
    rw [kidsDeep, getD_at hi, hn, ← mx_kid]
    rfl
  have h2 := mx_in (deepsTo_in ns i) ns[i].kids 0 (by omega)
  rw [h1, cutDeep]
  have h3 : ¬ (0 < i ∧ (deepsTo ns i).getD (i - 1) 0 = 0) := fun h => by
    have := hA (i - 1) (by omega)
    omega
  by_cases h4 : ns[i].kids.foldl (mxDeep (deepsTo ns i)) 0 = 10
  · rw [if_pos h4, if_pos (.inl (by omega))]
  · rw [if_neg h4, if_neg (by omega)]

def DpR (base : Nat) (W1 : World) (ns : List Nd) (n : Nat) (v iv : Value) (wr : World) : Prop :=
  ∃ i : Nat, i ≤ n ∧ iv = .int .i64 i ∧ Hid (wr.ownsRow base 3 1 v i ((deepsTo ns i).map I64)) ∧ Hid (Below W1.heap.size W1 wr) ∧ Hid (∀ j, j < i → 1 ≤ (deepsTo ns i).getD j 0)
def DpI (w2 : World) (out ks : List Int) (dv iv : Value) (wr : World) : Prop :=
  ∃ (j : Nat) (d : Int), j ≤ ks.length ∧ iv = .int .i64 j ∧ dv = .int .i64 d ∧ Hid (d = (ks.take j).foldl (mxDeep out) 0) ∧ 0 ≤ d ∧ d ≤ 10 ∧ wr = w2

set_option maxRecDepth 100000 in
set_option maxHeartbeats 4000000 in
theorem deepOf_in (nv mv pv : Value) (ns : List Nd) (k : Nat) (w : World) (hN : NdsAt w nv ns) (hR : NdsRoom w nv ns.length) (hk : k < ns.length) (hl : ns.length ≤ 1048576) (hkx : ∀ x ∈ ns, x.kids.length ≤ 1048576) (hall : ∀ (j : Nat) (hj : j < ns.length), nodeB ns[j] (kinds ns j) = true) :
    Calls Tryz.prog 59 #[.agg #[nv, mv, pv], .int .i64 (k : Int)] w fun e w' => e = .returned (.int .i64 ((deepsTo ns (k + 1)).getD k 0)) ∧ Below w.heap.size w w' := by
  have hb1 : Below w.heap.size w (w.alloc (.cells #[nv, mv, pv] 34)) := (Below.refl _ _).alloc (Nat.le_refl _) _
  have CH := fun w h => hide (has_any nv mv pv ns (k : Int) w h)
  have e1 : inZ 0 ((ns.length : Int) - 1) (k : Int) = true := inZ_yes.2 (by omega)
  rw [e1] at CH
  have HN := hide (hN.stays hb1)
  have HX := hide (Boxed.made w nv mv pv 34)
  have HB := hide hb1
  have HS : Hid ((w.alloc (.cells #[nv, mv, pv] 34)).heap.size = w.heap.size + 1) := by show _ = _; simp
  have HALL := hide hall
  have HKX := hide hkx
  clear hb1 e1 hall hkx
  obtain ⟨ao, c, rfl, hro⟩ := hN
  have hcap : ns.length ≤ c := by
    obtain ⟨ao2, c2, e2, h2, _⟩ := hR
    injection e2 with _ _ e4
    omega
  clear hR
  obtain ⟨a0, rfl⟩ : ∃ a0, ao = some a0 := by
    obtain ⟨a, _, h, _⟩ := hro k hk
    exact ⟨a, h⟩
  clear hro
  obtain ⟨n, en⟩ : ∃ n, ns.length = n := ⟨_, rfl⟩
  have EN := hide en
  simp only [en] at HN HX HB HS CH hl hcap hk ⊢
  clear en
  have hk0 : (0 : Int) ≤ (k : Int) := by omega
  have hk1 : (k : Int) < (n : Int) := by omega
  have hkc : ((k : Int) + 1) ≤ (c : Int) := by omega
  have hkc0 : (0 : Int) ≤ (k : Int) + 1 := by omega
  have htn : ((k : Int) + 1).toNat = k + 1 := by omega
  go_enter Tryz.func59, Tryz.ntmps59
  go_wp2_with fail
  obtain ⟨W1, hW⟩ : ∃ W1, w.alloc (.cells #[.slice (some a0) n c, mv, pv] 34) = W1 := ⟨_, rfl⟩
  rw [hW] at HN HX HB HS ⊢
  clear hW
  refine (unhide (CH _ HN.out)).mono ?_
  rintro e w1 ⟨rfl, hb2⟩
  have HB1 := hide hb2
  obtain ⟨c0, c1, c2, _⟩ := HX.out.stays hb2
  clear hb2 CH
  go_wp2
  have hw1z : w.heap.size + 1 ≤ w1.heap.size := by rw [← HS.out]; exact HB1.out.size
  go_loopw [5, 22] (DpR (w.heap.size + 1) W1 ns (k + 1)) (fun _ iv _ => k + 1 - (intOf iv).toNat)
  case atStart => exact ⟨0, by omega, rfl, ownsRow_empty w1 (w.heap.size + 1) 3 hw1z, HB1.out.alloc HB1.out.size _, fun j hj => absurd hj (Nat.not_lt_zero j)⟩
  case round =>
    clear c0 c1 c2
    obtain ⟨i, hi, rfl, HO, HB2, HA⟩ := hrel
    by_cases hlt : i < k + 1
    · have hlt' : (i : Int) < (k : Int) + 1 := by omega
      have hi0 : (0 : Int) ≤ (i : Int) := by omega
      have hin : (i : Int) < (n : Int) := by omega
      have hix : i < ns.length := by rw [EN.out]; omega
      have HNX := hide (deep_next hix (HALL.out i hix) HA.out)
      have HAH := hide (nodeB_ahead hix (HALL.out i hix))
      have HKL := hide (HKX.out _ (List.getElem_mem hix))
      obtain ⟨a', cc', p, kv, e5, hpa, hpb, hnode⟩ := HN.out.node i hix
      injection e5 with e6 e7 e8
      cases e6
      have HKI := hide hnode.kids
      have hnode2 := hnode.stays HB2.out hpb
      obtain ⟨x, ex⟩ : ∃ x, ns[i] = x := ⟨_, rfl⟩
      have HAX : Hid (∀ (t : Nat) (ht : t < x.kids.length), 0 ≤ x.kids[t] ∧ x.kids[t] < (i : Int)) := by rw [← ex]; exact HAH.out
      rw [ex] at HNX HKL hnode2 HKI
      obtain ⟨d0, d1, d2, d3, d4, d5, hkids⟩ := hnode2
      obtain ⟨ko, kc, rfl, _⟩ := hkids
      obtain ⟨kl, ekl⟩ : ∃ kl, x.kids.length = kl := ⟨_, rfl⟩
      have EKL := hide ekl
      have hklb : kl ≤ 1048576 := by rw [← ekl]; exact HKL.out
      rw [ekl] at d5 HKI
      clear ex ekl e7 e8 hnode HAH
      obtain ⟨out, eo⟩ : ∃ out, deepsTo ns i = out := ⟨_, rfl⟩
      have EO := hide eo
      have HDP : Hid (Deeps out) := by rw [← eo]; exact deepsTo_in ns i
      have HLO : Hid (out.length = i) := by rw [← eo]; exact deepsTo_len ns i
      have HSC : Hid (deepsTo ns (i + 1) = out ++ [cutDeep out i (kidsDeep ns out i)]) := by show _ = _; rw [deepsTo, eo]
      rw [eo] at HO HNX HA
      clear eo
      have HO4 := hide (HO.out.alloc (.cells #[.int .i64 x.kind, .int .i64 x.num, .string x.name, .string x.more, .string x.into, .slice ko kl kc] 78))
      have HB4 : Hid (Below W1.heap.size W1 (wr.alloc (.cells #[.int .i64 x.kind, .int .i64 x.num, .string x.name, .string x.more, .string x.into, .slice ko kl kc] 78))) := HB2.out.alloc HB2.out.size _
      go_wp2
      obtain ⟨W4, hW4⟩ : ∃ W4, wr.alloc (.cells #[.int .i64 x.kind, .int .i64 x.num, .string x.name, .string x.more, .string x.into, .slice ko kl kc] 78) = W4 := ⟨_, rfl⟩
      rw [hW4] at HO4 HB4 ⊢
      clear hW4 d0 d1 d2 d3 d4 d5
      go_loopw [8, 30] (DpI W4 out x.kids) (fun _ iv _ => kl - (intOf iv).toNat)
      case atStart => exact ⟨0, 0, by omega, rfl, rfl, rfl, by omega, by omega, rfl⟩
      case round =>
        obtain ⟨j, d, hj, rfl, rfl, HD, hd1, hd2, rfl⟩ := hrel
        rw [EKL.out] at hj
        by_cases hltj : j < kl
        · have hltj' : (j : Int) < (kl : Int) := by omega
          have hj0 : (0 : Int) ≤ (j : Int) := by omega
          have hjx : j < x.kids.length := by rw [EKL.out]; exact hltj
          obtain ⟨ko', kc', e5, hkc⟩ := HKI.out.stays HB4.out
          injection e5 with e6 e7 e8
          subst e6
          obtain ⟨b, rfl, _, hy⟩ := hkc j hjx
          obtain ⟨hy0, hy1⟩ := HAX.out j hjx
          have EJ : Hid ((x.kids.take (j + 1)).foldl (mxDeep out) 0 = mxDeep out d x.kids[j]) := by
            show _ = _
            rw [List.take_add_one, List.getElem?_eq_getElem hjx, List.foldl_append, HD.out]
            rfl
          obtain ⟨y, ey⟩ : ∃ y, x.kids[j] = y := ⟨_, rfl⟩
          rw [ey] at hy hy0 hy1 EJ
          clear ey hkc e7 e8
          obtain ⟨t, et⟩ : ∃ t : Nat, y = (t : Int) := ⟨y.toNat, by omega⟩
          subst et
          obtain ⟨g, cap, rfl, hg1, hg2, hcell⟩ := ownsInts_form HO4.out (by omega)
          have hz := hcell t (by omega)
          have hzi := HDP.out t
          have EK : Hid (mxDeep out d (t : Int) = if d < out.getD t 0 then out.getD t 0 else d) := by show _ = _; rw [mxDeep]; rfl
          obtain ⟨z, ez⟩ : ∃ z, out.getD t 0 = z := ⟨_, rfl⟩
          rw [ez] at hz hzi EK
          clear ez hcell
          have hyl : ¬ (t : Int) < 0 := by omega
          have hyk : ¬ (i : Int) ≤ (t : Int) := by omega
          have hti : (t : Int) < (i : Int) := by omega
          have ht0 : (0 : Int) ≤ (t : Int) := by omega
          by_cases hdz : d < z
          · have hE : Hid (z = (x.kids.take (j + 1)).foldl (mxDeep out) 0) := by show _ = _; rw [EJ.out, EK.out, if_pos hdz]
            go_wp2
            go_roundw
            case rel => exact ⟨j + 1, z, by rw [EKL.out]; omega, by go_num, by first | rfl | (congr 1; omega), hE.out, by omega, by omega, rfl⟩
            case measure => simp [intOf]; omega
          · have hE : Hid (d = (x.kids.take (j + 1)).foldl (mxDeep out) 0) := by show _ = _; rw [EJ.out, EK.out, if_neg hdz]
            go_wp2
            go_roundw
            case rel => exact ⟨j + 1, d, by rw [EKL.out]; omega, by go_num, by first | rfl | (congr 1; omega), hE.out, by omega, by omega, rfl⟩
            case measure => simp [intOf]; omega
        · have hltj' : ¬ (j : Int) < (kl : Int) := by omega
          have HE : Hid (x.kids.foldl (mxDeep out) 0 = d) := by
            have h := HD.out
            rw [List.take_of_length_le (by rw [EKL.out]; omega)] at h
            exact h.symm
          rw [HE.out] at HNX
          by_cases hd10 : d = 10
          · subst hd10
            have HZ : Hid ((deepsTo ns (k + 1)).getD k 0 = 0) := by
              refine deep_zero (i := i) ?_ k (by omega)
              rw [deepsTo_at ns (i + 1) (Nat.lt_succ_self _), EO.out, HNX.out]
              rfl
            go_wp2
            go_ret
            exact ⟨by rw [← List.getD_eq_getElem?_getD, HZ.out]; rfl, HB.out.trans (HB4.out.mono HB.out.size)⟩
          · have HC : Hid (cutDeep out i (kidsDeep ns out i) = d + 1) := by show _ = _; rw [HNX.out, if_neg hd10]
            rw [HC.out] at HSC
            have hwz : w.heap.size + 1 ≤ wr.heap.size := by rw [← HS.out]; exact HB4.out.size
            go_wp2_with (at_builtin; refine wpList_app1 rfl (.tmp 50) (.tmp 53) 67 rfl (w.heap.size + 1) 3 (.int .i64 0) 8 Tryz.underlying67 Tryz.infoInt rfl _ _ _ _ rfl HO4.out rfl rfl (by unfold maxLen; omega) (by omega) hwz ?_)
            intro v' w5 hown5 hb5
            have R : DpR (w.heap.size + 1) W1 ns (k + 1) v' (.int .i64 ((i : Int) + 1)) w5 := ⟨i + 1, by omega, rfl, hide (by rw [HSC.out]; simpa using hown5), HB4.out.trans (by rw [HS.out]; exact hb5), fun t ht => by
              rw [HSC.out]
              rcases Nat.lt_succ_iff_lt_or_eq.1 ht with h | h
              · have e : (out ++ [d + 1]).getD t 0 = out.getD t 0 := by
                  simp [List.getD_eq_getElem?_getD, List.getElem?_append_left (show t < out.length by rw [HLO.out]; exact h)]
                rw [e]
                exact HA.out t h
              · subst h
                have e : (out ++ [d + 1]).getD t 0 = d + 1 := by
                  simp [List.getD_eq_getElem?_getD, HLO.out]
                rw [e]
                omega⟩
            clear hown5 hb5
            go_wp2
            go_roundw
            case rel => exact R
            case measure => simp [intOf]; omega
    · have hlt' : ¬ (i : Int) < (k : Int) + 1 := by omega
      have ei : i = k + 1 := by omega
      subst ei
      obtain ⟨g, cap, rfl, hg1, hg2, hcell⟩ := ownsInts_form HO.out (by omega)
      have hz := hcell k (by omega)
      obtain ⟨z, ez⟩ : ∃ z, (deepsTo ns (k + 1)).getD k 0 = z := ⟨_, rfl⟩
      have EZ := hide ez
      rw [ez] at hz
      clear ez hcell
      have hkk : (k : Int) < (k : Int) + 1 := by omega
      go_wp2
      go_ret
      exact ⟨by rw [← List.getD_eq_getElem?_getD, EZ.out]; rfl, HB.out.trans (HB2.out.mono HB.out.size)⟩
end Go.Proofs.YtdfahpachbhglaaGreatDoor
