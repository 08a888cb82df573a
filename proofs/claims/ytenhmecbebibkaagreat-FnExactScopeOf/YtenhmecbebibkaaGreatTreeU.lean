/-
  Walks: how often each node is used, by the specification.
-/
import Derived.Test.YtenhmecbebibkaaGreatLawN
import Derived.Test.YtenhmecbebibkaaGreatRowQ
import Derived.Test.YtenhmecbebibkaaGreatLawT
import Derived.Test.YtenhmecbebibkaaGreatTreeM
import Derived.Test.YtenhmecbebibkaaGreatTreeD
import Derived.Test.YtenhmecbebibkaaGreatImpD
import Derived.Test.YtenhmecbebibkaaGreatLawV
namespace Go.Proofs.YtenhmecbebibkaaGreat
open Go.RowKit

/-- While places are counted: the row of counts, what was there, a row of places beside it. -/
structure CntS (W1 : World) (n : Nat) (bv : Value) (bs u : List Int) (wr : World) : Prop where
  own : wr.ownsRow W1.heap.size 3 1 (.slice (some ⟨W1.heap.size, 0, none⟩) n n) n ((cnt n u).map I64)
  bel : Below W1.heap.size W1 wr
  row : IntsIn (W1.heap.size + 1) wr bv bs
theorem CntS.step {W1 : World} {n : Nat} {bv : Value} {bs u : List Int} {wr : World} (h : CntS W1 n bv bs u wr) {y : Nat} (hy : y < n) : CntS W1 n bv bs (u ++ [(y : Int)]) (wr.setCell ⟨W1.heap.size, y, none⟩ (.int .i64 ((cnt n u).getD y 0 + 1))) :=
  ⟨ownsCnt_step h.own hy, h.bel.setCell (Nat.le_refl _) _, h.row.kept (KeptFrom.setCell (Nat.lt_succ_self _) _ _ _)⟩
theorem CntS.drewN {W1 : World} {n : Nat} {bv : Value} {bs u : List Int} {wr : World} (h : CntS W1 n bv bs u wr) (q : Nat) : CntS W1 n bv bs u (wr.drewN q) :=
  ⟨h.own, below_drewN h.bel q, h.row.kept (KeptFrom.below (below_drewN (Below.refl _ _) q))⟩
theorem CntS.stays {W1 : World} {n : Nat} {bv : Value} {bs u : List Int} {wr w' : World} (h : CntS W1 n bv bs u wr) (hb : Below wr.heap.size wr w') : CntS W1 n bv bs u w' :=
  ⟨ownsInts_stays h.own hb, h.bel.trans (hb.mono h.bel.size), h.row.kept (KeptFrom.below hb)⟩
theorem flat_one (n : Nat) : (List.replicate n [Value.int .i64 0]).flatten = List.replicate n (I64 0) := by
  induction n with
  | zero => rfl
  | succ m ih => rw [List.replicate_succ, List.flatten_cons, ih]; rfl
def UsA (W1 : World) (n : Nat) (bv : Value) (bs : List Int) (iv : Value) (wr : World) : Prop := ∃ i : Nat, i ≤ bs.length ∧ iv = .int .i64 i ∧ Hid (CntS W1 n bv bs (bs.take i) wr)
def UsB (W1 : World) (ns : List Nd) (bv : Value) (bs : List Int) (iv : Value) (wr : World) : Prop := ∃ k : Nat, k ≤ ns.length ∧ iv = .int .i64 k ∧ Hid (CntS W1 ns.length bv bs (bs ++ allKids (ns.take k)) wr)
def UsC (W1 : World) (n : Nat) (bv : Value) (bs u ks : List Int) (iv : Value) (wr : World) : Prop := ∃ i : Nat, i ≤ ks.length ∧ iv = .int .i64 i ∧ Hid (CntS W1 n bv bs (u ++ ks.take i) wr)

set_option maxRecDepth 100000 in
set_option maxHeartbeats 2000000 in
theorem l05Used_any (nv mv pv : Value) (ns : List Nd) (ms : List Mo) (ps : List Pr) (w : World) (hN : NdsAt w nv ns) (hM : MosAt w mv ms) (hP : PrsAt w pv ps) (hl : ns.length ≤ 1048576) (hbl : (bodiesL ms ps).length ≤ 1048576) (hml : ms.length ≤ 1048576) (hpl : ps.length ≤ 1048576) (hel : ∀ m ∈ ms, m.ents.length ≤ 1048576)
    (hkl : (allKids ns).length ≤ 1048576) (hkx : ∀ x ∈ ns, x.kids.length ≤ 1048576) (hK : ∀ x ∈ ns, ∀ y ∈ x.kids, 0 ≤ y ∧ y < (ns.length : Int)) :
    Calls Tryz.prog 35 #[.agg #[nv, mv, pv]] w fun e w' => ∃ v, e = .returned v ∧ w'.ownsRow (w.heap.size + 1) 3 1 v ns.length ((cnt ns.length (bodiesL ms ps ++ allKids ns)).map I64) ∧ Below w.heap.size w w' := by
  have hb1 : Below w.heap.size w (w.alloc (.cells #[nv, mv, pv] 33)) := (Below.refl _ _).alloc (Nat.le_refl _) _
  have HN := hide (hN.stays hb1)
  have HM := hide (hM.stays hb1)
  have HP := hide (hP.stays hb1)
  have HX := hide (Boxed.made w nv mv pv 33)
  have HB := hide hb1
  have HS : Hid ((w.alloc (.cells #[nv, mv, pv] 33)).heap.size = w.heap.size + 1) := by show _ = _; simp
  have CB := fun w h1 h2 => hide (l05Bodies_any nv mv pv ms ps w h1 h2 hbl hml hpl hel)
  clear hb1 hel hml hpl
  obtain ⟨ao, c, rfl, _⟩ := hN
  obtain ⟨mo, mc, rfl, _⟩ := hM
  obtain ⟨po, pc, rfl, _⟩ := hP
  obtain ⟨n, en⟩ : ∃ n, ns.length = n := ⟨_, rfl⟩
  have EN := hide en
  have HKX := hide hkx
  have HK := hide hK
  have HKL := hide hkl
  simp only [en] at HN HM HP HX HB HS CB hl HK ⊢
  clear en hkx hK hkl
  obtain ⟨bs, ebs⟩ : ∃ bs, bodiesL ms ps = bs := ⟨_, rfl⟩
  simp only [ebs] at CB hbl ⊢
  clear ebs
  obtain ⟨W1, hW⟩ : ∃ W1, w.alloc (.cells #[.slice ao n c, .slice mo ms.length mc, .slice po ps.length pc] 33) = W1 := ⟨_, rfl⟩
  obtain ⟨i0, hi, hz0, hz1, hz2⟩ := info_parts (Tryz.infoInt)
  obtain ⟨wm, hmk, hown, hgr⟩ := run_make_full (P := Tryz.prog) W1 W1.heap.size 50 3 i0 (.int .i64 0) 1 Tryz.underlying50 hi hz0 hz1 .i64 .i64 n (by rw [hz2]; omega) (by unfold maxLen; omega) (Nat.le_refl _)
  rw [hW] at HN HM HP HX HB HS
  have OW : Hid (wm.ownsRow W1.heap.size 3 1 (.slice (some ⟨W1.heap.size, 0, none⟩) n n) n ((cnt n []).map I64)) := by
    have e := made_flat [.int .i64 0] (by decide) n
    simp only [List.length_singleton] at e
    have e2 : (cnt n []).map I64 = (List.replicate n [Value.int .i64 0]).flatten := by
      rw [cnt_nil, List.map_replicate]
      exact (flat_one n).symm
    rw [e2, ← e]
    exact hown
  have GB : Hid (Below W1.heap.size W1 wm) := (Below.refl _ _).grown hgr (Nat.le_refl _) (fun k hk => by cases hk)
  rw [HS.out, ← hW] at hmk
  have HWW := hide hW
  clear hown hgr hi hz0 hz1 hz2 hW
  go_enter Tryz.func35, Tryz.ntmps35
  obtain ⟨c0, c1, c2, hlt0⟩ := HX.out.stays GB.out
  go_wp2_with fail
  refine (unhide (CB _ (HM.out.stays GB.out) (HP.out.stays GB.out))).mono ?_
  rintro e w2 ⟨bv, rfl, hown2, hb2⟩
  have ZM : Hid (W1.heap.size < wm.heap.size) := (OW.out.lt _ rfl).2
  have HC : Hid (CntS W1 n bv bs [] w2) := ⟨ownsInts_stays OW.out hb2, GB.out.trans (hb2.mono GB.out.size), (CellsIn.own hown2).mono (by have := ZM.out; omega)⟩
  obtain ⟨bo, bn, bc, ebv⟩ : ∃ bo bn bc, bv = .slice bo bn bc := by
    obtain ⟨o, c, e, _⟩ := HC.out.row
    exact ⟨_, _, _, e⟩
  have hbn : bn = bs.length := by
    obtain ⟨o, c, e, _⟩ := HC.out.row
    rw [ebv] at e
    injection e with _ e _
    rw [e, List.length_map]
  subst ebv
  subst hbn
  clear hb2 hown2 c0 c1 c2 hlt0 CB OW hmk
  rw [← HS.out]
  go_wp2
  obtain ⟨m, em⟩ : ∃ m, bs.length = m := ⟨_, rfl⟩
  have EM := hide em
  rw [em] at HC hbl ⊢
  clear em
  go_loopw [5] (UsA W1 n (.slice bo m bc) bs) (fun iv _ => m - (intOf iv).toNat)
  case atStart => exact ⟨0, by omega, rfl, HC.out⟩
  case round =>
    obtain ⟨i, hi, rfl, HF⟩ := hrel
    rw [EM.out] at hi
    obtain ⟨c0, c1, c2, _⟩ := HX.out.stays HF.out.bel
    by_cases hlt : i < m
    · have hlt' : (i : Int) < (m : Int) := by omega
      have hi0 : (0 : Int) ≤ (i : Int) := by omega
      have hix : i < bs.length := by rw [EM.out]; exact hlt
      obtain ⟨bo', bc', e1, hc1⟩ := HF.out.row.at
      injection e1 with e2 e3 e4
      subst e2
      obtain ⟨b, rfl, _, hx⟩ := hc1 i hix
      have HT : Hid (bs.take (i + 1) = bs.take i ++ [bs[i]]) := List.take_succ_eq_append_getElem hix
      obtain ⟨y, ey⟩ : ∃ y, bs[i] = y := ⟨_, rfl⟩
      rw [ey] at hx HT
      clear ey hc1 e3 e4
      have CI := fun w => hide (l01In_gen y 0 ((n : Int) - 1) w)
      have hwr : IntKind.i64.wrap ((n : Int) - 1) = (n : Int) - 1 := IntWalk.i64_in _ (by omega)
      cases hin : inZ 0 ((n : Int) - 1) y with
      | false =>
        have hno := inZ_no.1 hin
        have HE : Hid (cnt n (bs.take (i + 1)) = cnt n (bs.take i)) := by show _ = _; rw [HT.out, cnt_skip _ (by omega)]
        rw [hin] at CI
        clear hin hno
        go_wp2
        go_region_held3 (fun z => z.cell? (b.add i) = some (.int .i64 y) ∧ z.cell? ⟨w.heap.size, 0, none⟩ = some (.slice ao n c)) (go_keep) ((go_at_call 33; refine (unhide (CI _)).mono ?_; rintro e w3 ⟨rfl, rfl⟩))
        all_goals go_wp2
        all_goals go_roundw
        case rel => exact ⟨i + 1, by rw [EM.out]; omega, by go_num, by
          have h := HF.out.stays (Below.refl _ _).drew
          exact ⟨by rw [HE.out]; exact h.own, h.bel, h.row⟩⟩
        case measure => simp [intOf]; omega
      | true =>
        obtain ⟨hy0, hy1⟩ := inZ_yes.1 hin
        obtain ⟨t, ht⟩ : ∃ t : Nat, y = (t : Int) := ⟨y.toNat, by omega⟩
        subst ht
        rw [hin] at CI
        have htn : t < n := by omega
        have htn' : (t : Int) < (n : Int) := by omega
        have ht0 : (0 : Int) ≤ (t : Int) := by omega
        obtain ⟨k0, f0⟩ := ownsCnt_cell HF.out.own htn
        have hle := cnt_le (n := n) (bs.take i) htn
        rw [List.length_take] at hle
        have HST := hide (HF.out.step htn)
        obtain ⟨q, eq⟩ : ∃ q, (cnt n (bs.take i)).getD t 0 = q := ⟨_, rfl⟩
        rw [eq] at k0 hle HST
        have hq0 : 0 ≤ q := hle.1
        have hq1 : q ≤ 1048576 := by omega
        clear hin eq hle
        go_wp2
        go_region_held3 (fun z => z.cell? (b.add i) = some (.int .i64 (t : Int)) ∧ z.cell? ⟨w.heap.size, 0, none⟩ = some (.slice ao n c)) (go_keep) ((go_at_call 33; refine (unhide (CI _)).mono ?_; rintro e w3 ⟨rfl, rfl⟩))
        all_goals go_wp2
        all_goals go_roundw
        case rel => exact ⟨i + 1, by rw [EM.out]; omega, by go_num, by rw [HT.out]; exact HST.out.stays (Below.refl _ _).drew⟩
        case measure => simp [intOf]; omega
    · have hlt' : ¬ (i : Int) < (m : Int) := by omega
      have HD : Hid (CntS W1 n (.slice bo m bc) bs (bs ++ allKids (ns.take 0)) wr) := by
        have h := HF.out
        rw [List.take_of_length_le (by rw [EM.out]; omega)] at h
        have e : bs ++ allKids (ns.take 0) = bs := by simp [allKids]
        rw [e]
        exact h
      clear HF c0 c1 c2
      go_wp2
      go_loopw [6] (fun iv wr => UsB W1 ns (.slice bo m bc) bs iv wr) (fun iv _ => n - (intOf iv).toNat)
      case atStart => exact ⟨0, by omega, rfl, by rw [EN.out]; exact HD.out⟩
      case round =>
        obtain ⟨k, hk, rfl, HF2⟩ := hrel
        rw [EN.out] at hk HF2
        obtain ⟨c0, c1, c2, _⟩ := HX.out.stays HF2.out.bel
        by_cases hltk : k < n
        · have hltk' : (k : Int) < (n : Int) := by omega
          have hk0 : (0 : Int) ≤ (k : Int) := by omega
          have hkx : k < ns.length := by rw [EN.out]; exact hltk
          have HKT := hide (allKids_take hkx)
          have HKK := hide (HK.out _ (List.getElem_mem hkx))
          have HKN := hide (HKX.out _ (List.getElem_mem hkx))
          have HLT : Hid (bs.length + (allKids (ns.take k)).length + ns[k].kids.length ≤ 2097152) := by
            have h1 := allKids_len_take ns (k + 1)
            rw [allKids_take hkx, List.length_append] at h1
            have h2 := HKL.out
            show _ ≤ _
            rw [EM.out]
            omega
          obtain ⟨x, ex⟩ : ∃ x, ns[k] = x := ⟨_, rfl⟩
          have EX := hide ex
          rw [ex] at HKT HKK HKN HLT
          obtain ⟨kl, ekl⟩ : ∃ kl, x.kids.length = kl := ⟨_, rfl⟩
          have EKL := hide ekl
          have hklb : kl ≤ 1048576 := by rw [← ekl]; exact HKN.out
          clear ex ekl
          go_wp2
          go_loopw [7] (fun iv wr => UsC W1 n (.slice bo m bc) bs (bs ++ allKids (ns.take k)) x.kids iv wr) (fun iv _ => kl - (intOf iv).toNat)
          case atStart => exact ⟨0, by omega, rfl, by rw [List.take_zero, List.append_nil]; exact HF2.out⟩
          case round =>
            clear c0 c1 c2
            obtain ⟨j, hj, rfl, HF3⟩ := hrel
            rw [EKL.out] at hj
            obtain ⟨c0, c1, c2, _⟩ := HX.out.stays HF3.out.bel
            obtain ⟨a', cc', p, kv, e5, hpa, hpb, hnode⟩ := (HN.out.stays HF3.out.bel).node k hkx
            injection e5 with e6 e7 e8
            subst e6
            have d5 := hnode.c5
            have hkr := hnode.kids
            rw [EX.out] at hkr
            obtain ⟨ko, kc, rfl, hkc⟩ := hkr
            rw [EKL.out] at d5
            clear hnode e7 e8
            by_cases hltj : j < kl
            · have hltj' : (j : Int) < (kl : Int) := by omega
              have hj0 : (0 : Int) ≤ (j : Int) := by omega
              have hjx : j < x.kids.length := by rw [EKL.out]; exact hltj
              obtain ⟨b, rfl, _, hy⟩ := hkc j hjx
              have HT : Hid (x.kids.take (j + 1) = x.kids.take j ++ [x.kids[j]]) := List.take_succ_eq_append_getElem hjx
              obtain ⟨hy0, hy1⟩ := HKK.out _ (List.getElem_mem hjx)
              obtain ⟨y, ey⟩ : ∃ y, x.kids[j] = y := ⟨_, rfl⟩
              rw [ey] at hy HT hy0 hy1
              obtain ⟨t, ht⟩ : ∃ t : Nat, y = (t : Int) := ⟨y.toNat, by omega⟩
              subst ht
              clear ey hkc
              have htn : t < n := by omega
              obtain ⟨k0, f0⟩ := ownsCnt_cell HF3.out.own htn
              have hle := cnt_le (n := n) (bs ++ allKids (ns.take k) ++ x.kids.take j) htn
              have HST := hide (HF3.out.step htn)
              obtain ⟨q, eq⟩ : ∃ q, (cnt n (bs ++ allKids (ns.take k) ++ x.kids.take j)).getD t 0 = q := ⟨_, rfl⟩
              rw [eq] at k0 hle HST
              have hq0 : 0 ≤ q := hle.1
              have hq1 : q ≤ 2097152 := by
                have h1 := hle.2
                have h2 := HLT.out
                rw [List.length_append, List.length_append, List.length_take] at h1
                omega
              clear eq hle
              go_wp2
              go_roundw
              case rel =>
                refine ⟨j + 1, ?_, by go_num, ?_⟩
                · rw [EKL.out]; omega
                · rw [HT.out, ← List.append_assoc]; exact HST.out
              case measure => simp [intOf]; omega
            · have hltj' : ¬ (j : Int) < (kl : Int) := by omega
              have HE : Hid (CntS W1 n (.slice bo m bc) bs (bs ++ allKids (ns.take (k + 1))) wr) := by
                have h := HF3.out
                rw [List.take_of_length_le (l := x.kids) (i := j) (by rw [EKL.out]; omega), List.append_assoc, ← HKT.out] at h
                exact h
              go_wp2
              go_roundw
              case rel => exact ⟨k + 1, by rw [EN.out]; omega, by go_num, by rw [EN.out]; exact HE.out⟩
              case measure => simp [intOf]; omega
        · have hltk' : ¬ (k : Int) < (n : Int) := by omega
          go_wp2
          go_ret
          refine ⟨_, rfl, ?_, HB.out.trans (HF2.out.bel.mono (by rw [HS.out]; omega))⟩
          have h := HF2.out.own
          rw [List.take_of_length_le (by rw [EN.out]; omega)] at h
          rw [HS.out] at h ⊢
          exact h
end Go.Proofs.YtenhmecbebibkaaGreat

namespace Go.Proofs.YtenhmecbebibkaaGreat
open Go.RowKit

def deepQ (d : Int) : Bool := inZ 1 10 d
def bodyQ (ns : List Nd) (b : Int) : Bool := inZ 0 ((ns.length : Int) - 1) b && decide ((ns.getD b.toNat default).kind = 20)
/-- Is a program right, by the specification? -/
def specProgB (x : Pg) : Bool :=
  decide (x.nodes.length ≤ 160) && listsB x.mons x.pros && ((deepsTo x.nodes x.nodes.length).all deepQ && ((bodiesL x.mons x.pros).all (bodyQ x.nodes) && onceB x.nodes.length (bodiesL x.mons x.pros ++ allKids x.nodes)))

theorem deepsTo_at (ns : List Nd) {k : Nat} : ∀ n, k < n → (deepsTo ns n).getD k 0 = cutDeep (deepsTo ns k) k (kidsDeep ns (deepsTo ns k) k)
  | 0, h => absurd h (Nat.not_lt_zero k)
  | n + 1, h => by
    rcases Nat.lt_succ_iff_lt_or_eq.1 h with h | h
    · have e : (deepsTo ns (n + 1)).getD k 0 = (deepsTo ns n).getD k 0 := by
        simp [deepsTo, List.getD_eq_getElem?_getD, List.getElem?_append_left (show k < (deepsTo ns n).length by rw [deepsTo_len]; exact h)]
      rw [e, deepsTo_at ns n h]
    · subst h
      simp [deepsTo, List.getD_eq_getElem?_getD, deepsTo_len]
/-- Where all are deep, all are right. -/
theorem deep_right {ns : List Nd} (h : (deepsTo ns ns.length).all deepQ = true) {k : Nat} (hk : k < ns.length) : nodeB ns[k] (kinds ns k) = true := by
  have h1 : (deepsTo ns ns.length).getD k 0 = (deepsTo ns ns.length)[k]'(by rw [deepsTo_len]; exact hk) := by
    simp [List.getD_eq_getElem?_getD, List.getElem?_eq_getElem (show k < (deepsTo ns ns.length).length by rw [deepsTo_len]; exact hk)]
  have h2 := List.all_eq_true.1 h _ (List.getElem_mem (show k < (deepsTo ns ns.length).length by rw [deepsTo_len]; exact hk))
  rw [← h1, deepsTo_at ns ns.length hk] at h2
  have h3 := (inZ_yes.1 h2).1
  cases hn : nodeB ns[k] (kinds ns k) with
  | true => rfl
  | false =>
    have e : kidsDeep ns (deepsTo ns k) k = 0 := by
      rw [kidsDeep, getD_at hk, hn]
      rfl
    rw [e, cutDeep] at h3
    split at h3 <;> omega
theorem deep_kids {ns : List Nd} (h : (deepsTo ns ns.length).all deepQ = true) : ∀ x ∈ ns, ∀ y ∈ x.kids, 0 ≤ y ∧ y < (ns.length : Int) := by
  intro x hx y hy
  obtain ⟨k, hk, rfl⟩ := List.getElem_of_mem hx
  obtain ⟨i, hi, rfl⟩ := List.getElem_of_mem hy
  have := nodeB_ahead hk (deep_right h hk) i hi
  omega

set_option maxRecDepth 100000 in
set_option maxHeartbeats 4000000 in
theorem specProgramOk_any (nv mv pv : Value) (x : Pg) (w : World) (hN : NdsAt w nv x.nodes) (hM : MosAt w mv x.mons) (hP : PrsAt w pv x.pros) (hL : PgLen x) (hin : NsIn x.nodes) (hmi : ∀ m ∈ x.mons, MoIn m) (hpi : ∀ p ∈ x.pros, PrIn p) (hkl : (allKids x.nodes).length ≤ 1048576) (hbl : (bodiesL x.mons x.pros).length ≤ 1048576) :
    Calls Tryz.prog 12 #[.agg #[nv, mv, pv]] w fun e w' => e = .returned (.bool (specProgB x)) ∧ Below w.heap.size w w' := by
  have hb1 : Below w.heap.size w (w.alloc (.cells #[nv, mv, pv] 33)) := (Below.refl _ _).alloc (Nat.le_refl _) _
  have HN := hide (hN.stays hb1)
  have HM := hide (hM.stays hb1)
  have HP := hide (hP.stays hb1)
  have HX := hide (Boxed.made w nv mv pv 33)
  have HB := hide hb1
  have CL := fun w h1 h2 => hide (l05Lists_any nv mv pv x.mons x.pros w h1 h2 hL.ml hL.pl hmi hpi)
  have CD := fun w h => hide (l05Deeps_any nv mv pv x.nodes w h hL.nl hin)
  have CB := fun w h1 h2 => hide (l05Bodies_any nv mv pv x.mons x.pros w h1 h2 hbl hL.ml hL.pl (fun m hm => (hL.mon m hm).2.2))
  have CU := fun w h0 h1 h2 hK => hide (l05Used_any nv mv pv x.nodes x.mons x.pros w h0 h1 h2 hL.nl hbl hL.ml hL.pl (fun m hm => (hL.mon m hm).2.2) hkl hL.kids hK)
  have hnl := hL.nl
  clear hb1 hin hmi hpi hL hkl
  obtain ⟨ao, c, rfl, _⟩ := hN
  obtain ⟨mo, mc, rfl, _⟩ := hM
  obtain ⟨po, pc, rfl, _⟩ := hP
  obtain ⟨n, en⟩ : ∃ n, x.nodes.length = n := ⟨_, rfl⟩
  have EN := hide en
  have HU : Hid (specProgB x = (decide (n ≤ 160) && listsB x.mons x.pros && ((deepsTo x.nodes n).all deepQ && ((bodiesL x.mons x.pros).all (bodyQ x.nodes) && onceB n (bodiesL x.mons x.pros ++ allKids x.nodes))))) := by show _ = _; rw [specProgB, en]
  have HKK : Hid ((deepsTo x.nodes n).all deepQ = true → ∀ y ∈ x.nodes, ∀ z ∈ y.kids, 0 ≤ z ∧ z < (n : Int)) := by rw [← en]; exact deep_kids
  simp only [en] at HN HM HP HX HB CL CD CB CU hnl ⊢
  clear en
  by_cases h160 : n ≤ 160
  case neg =>
    have h160' : (160 : Int) < (n : Int) := by omega
    have HF : Hid (specProgB x = false) := by show _ = _; rw [HU.out]; simp [h160]
    go_enter Tryz.func12, Tryz.ntmps12
    go_wp2
    go_ret
    exact ⟨by rw [HF.out]; rfl, HB.out⟩
  have h160' : ¬ (160 : Int) < (n : Int) := by omega
  cases hls : listsB x.mons x.pros with
  | false =>
    have HF : Hid (specProgB x = false) := by show _ = _; rw [HU.out, hls]; simp
    rw [hls] at CL
    clear hls
    go_enter Tryz.func12, Tryz.ntmps12
    go_wp2_with (go_at_call 31; refine (unhide (CL _ HM.out HP.out)).mono ?_; rintro e w2 ⟨rfl, hb2⟩; have HB2 := hide (HB.out.trans (hb2.mono HB.out.size)); clear hb2)
    go_ret
    exact ⟨by rw [HF.out]; rfl, HB2.out⟩
  | true =>
    have HV : Hid (specProgB x = ((deepsTo x.nodes n).all deepQ && ((bodiesL x.mons x.pros).all (bodyQ x.nodes) && onceB n (bodiesL x.mons x.pros ++ allKids x.nodes)))) := by show _ = _; rw [HU.out, hls]; simp [h160]
    rw [hls] at CL
    clear hls HU
    go_enter Tryz.func12, Tryz.ntmps12
    go_wp2_with fail
    obtain ⟨W1, hW⟩ : ∃ W1, w.alloc (.cells #[.slice ao n c, .slice mo x.mons.length mc, .slice po x.pros.length pc] 33) = W1 := ⟨_, rfl⟩
    rw [hW] at HN HM HP HX HB ⊢
    clear hW
    refine (unhide (CL _ HM.out HP.out)).mono ?_
    rintro e w2 ⟨rfl, hb2⟩
    have B2 := hide hb2
    obtain ⟨c0, c1, c2, _⟩ := HX.out.stays hb2
    clear hb2 CL
    go_wp2_with fail
    refine (unhide (CD _ (HN.out.stays B2.out))).mono ?_
    rintro e w3 ⟨dv, rfl, hown3, hb3⟩
    have B3 := hide (B2.out.trans (hb3.mono B2.out.size))
    have DI : Hid (IntsAt w3 dv (deepsTo x.nodes n)) := IntsIn.at (CellsIn.own hown3)
    obtain ⟨do_, dc, rfl, _⟩ := DI.out
    rw [deepsTo_len] at DI ⊢
    clear hown3 hb3 CD c0 c1 c2
    obtain ⟨ds, eds⟩ : ∃ ds, deepsTo x.nodes n = ds := ⟨_, rfl⟩
    have EDS : Hid (ds.length = n) := by show _ = _; rw [← eds]; exact deepsTo_len _ _
    rw [eds] at DI HV HKK
    clear eds
    go_wp2
    go_loopw [4] (LstR w3 ds deepQ) (fun iv _ => n - (intOf iv).toNat)
    case atStart => exact ⟨0, by omega, rfl, Below.refl _ _, fun j y hj => absurd hj (Nat.not_lt_zero j)⟩
    case round =>
      obtain ⟨i, hi, rfl, HB4, HA⟩ := hrel
      rw [EDS.out] at hi
      by_cases hlt : i < n
      · have hlt' : (i : Int) < (n : Int) := by omega
        have hi0 : (0 : Int) ≤ (i : Int) := by omega
        have hix : i < ds.length := by rw [EDS.out]; exact hlt
        obtain ⟨do', dc', e5, hdc⟩ := DI.out.stays HB4.out
        injection e5 with e6 e7 e8
        subst e6
        obtain ⟨b, rfl, _, hy⟩ := hdc i hix
        have EX : Hid (ds[i]? = some ds[i]) := List.getElem?_eq_getElem hix
        obtain ⟨y, ey⟩ : ∃ y, ds[i] = y := ⟨_, rfl⟩
        rw [ey] at hy EX
        clear ey hdc e7 e8
        have CI := fun w => hide (l01In_gen y 1 10 w)
        have EQ : deepQ y = inZ 1 10 y := rfl
        cases hq : inZ 1 10 y with
        | true =>
          rw [hq] at CI
          have HT : Hid (deepQ y = true) := EQ.trans hq
          clear hq EQ
          go_wp2_with (go_at_call 33; refine (unhide (CI _)).mono ?_; rintro e w5 ⟨rfl, rfl⟩)
          go_roundw
          case rel => exact ⟨i + 1, by rw [EDS.out]; omega, by go_num, HB4.out, LstR.next HA.out EX.out HT.out⟩
          case measure => simp [intOf]; omega
        | false =>
          rw [hq] at CI
          have HF : Hid (specProgB x = false) := by show _ = _; rw [HV.out, all_no EX.out (EQ.trans hq)]; rfl
          clear hq EQ
          go_wp2_with (go_at_call 33; refine (unhide (CI _)).mono ?_; rintro e w5 ⟨rfl, rfl⟩)
          go_ret
          exact ⟨by rw [HF.out]; rfl, HB.out.trans ((B3.out.trans (HB4.out.mono B3.out.size)).mono HB.out.size)⟩
      · have hlt' : ¬ (i : Int) < (n : Int) := by omega
        have hall : ds.all deepQ = true := LstR.all HA.out (by rw [EDS.out]; omega)
        have HK := hide (HKK.out hall)
        rw [hall, Bool.true_and] at HV
        clear hall HKK
        have B4 := hide (B3.out.trans (HB4.out.mono B3.out.size))
        obtain ⟨c0, c1, c2, _⟩ := HX.out.stays B4.out
        go_wp2_with fail
        refine (unhide (CB _ (HM.out.stays B4.out) (HP.out.stays B4.out))).mono ?_
        rintro e w6 ⟨bv, rfl, hown6, hb6⟩
        have B6 := hide (B4.out.trans (hb6.mono B4.out.size))
        have BI : Hid (IntsAt w6 bv (bodiesL x.mons x.pros)) := IntsIn.at (CellsIn.own hown6)
        obtain ⟨bo, bc, rfl, _⟩ := BI.out
        clear hown6 hb6 CB c0 c1 c2
        obtain ⟨bs, ebs⟩ : ∃ bs, bodiesL x.mons x.pros = bs := ⟨_, rfl⟩
        simp only [ebs] at BI HV CU hbl ⊢
        clear ebs
        obtain ⟨m, em⟩ : ∃ m, bs.length = m := ⟨_, rfl⟩
        have EM := hide em
        rw [em] at BI hbl ⊢
        clear em
        go_wp2
        go_loopw [6] (LstR w6 bs (bodyQ x.nodes)) (fun iv _ => m - (intOf iv).toNat)
        case atStart => exact ⟨0, by omega, rfl, Below.refl _ _, fun j y hj => absurd hj (Nat.not_lt_zero j)⟩
        case round =>
          obtain ⟨i, hi, rfl, HB7, HA7⟩ := hrel
          rw [EM.out] at hi
          have B7 := hide (B6.out.trans (HB7.out.mono B6.out.size))
          obtain ⟨c0, c1, c2, _⟩ := HX.out.stays B7.out
          by_cases hlt : i < m
          · have hlt' : (i : Int) < (m : Int) := by omega
            have hi0 : (0 : Int) ≤ (i : Int) := by omega
            have hix : i < bs.length := by rw [EM.out]; exact hlt
            obtain ⟨bo', bc', e5, hbc⟩ := BI.out.stays HB7.out
            injection e5 with e6 e7 e8
            subst e6
            obtain ⟨b, rfl, _, hy⟩ := hbc i hix
            have EX : Hid (bs[i]? = some bs[i]) := List.getElem?_eq_getElem hix
            obtain ⟨y, ey⟩ : ∃ y, bs[i] = y := ⟨_, rfl⟩
            rw [ey] at hy EX
            clear ey hbc e7 e8
            have CI := fun w => hide (l01In_gen y 0 ((n : Int) - 1) w)
            have hwr : IntKind.i64.wrap ((n : Int) - 1) = (n : Int) - 1 := IntWalk.i64_in _ (by omega)
            cases hq : inZ 0 ((n : Int) - 1) y with
            | false =>
              rw [hq] at CI
              have HF : Hid (specProgB x = false) := by show _ = _; rw [HV.out, all_no EX.out (by rw [bodyQ, EN.out, hq]; rfl)]; rfl
              clear hq
              go_wp2
              go_quiet ((go_at_call 33; exact Calls.quiet_of_same (unhide (CI _))))
              all_goals go_wp2
              all_goals go_ret
              all_goals exact ⟨by rw [HF.out]; rfl, HB.out.trans ((below_drewN B7.out _).mono HB.out.size)⟩
            | true =>
              obtain ⟨hy0, hy1⟩ := inZ_yes.1 hq
              obtain ⟨t, ht⟩ : ∃ t : Nat, y = (t : Int) := ⟨y.toNat, by omega⟩
              subst ht
              have htn : t < x.nodes.length := by rw [EN.out]; omega
              have htn' : (t : Int) < (n : Int) := by omega
              obtain ⟨a', cc', p, kv, e5, hpa, hpb, hnode⟩ := (HN.out.stays B7.out).node t htn
              injection e5 with e6 e7 e8
              subst e6
              have d0 := hnode.c0
              have EQ : Hid (bodyQ x.nodes (t : Int) = decide (x.nodes[t].kind = 20)) := by show _ = _; rw [bodyQ, EN.out, hq, Int.toNat_natCast, getD_at htn]; rfl
              rw [hq] at CI
              obtain ⟨kd, ekd⟩ : ∃ kd, x.nodes[t].kind = kd := ⟨_, rfl⟩
              rw [ekd] at d0 EQ
              clear hq hnode ekd e7 e8
              by_cases hkd : kd = 20
              · subst hkd
                have HT : Hid (bodyQ x.nodes (t : Int) = true) := by show _ = _; rw [EQ.out]; rfl
                go_wp2
                go_region_held3 (fun z => z.cell? (b.add i) = some (.int .i64 (t : Int)) ∧ z.cell? ⟨w.heap.size, 0, none⟩ = some (.slice (some a') n c) ∧ z.cell? p = some (.int .i64 20)) (go_keep) ((go_at_call 33; refine (unhide (CI _)).mono ?_; rintro e w8 ⟨rfl, rfl⟩))
                all_goals go_wp2
                all_goals go_roundw
                case rel => exact ⟨i + 1, by rw [EM.out]; omega, by go_num, HB7.out.drew, LstR.next HA7.out EX.out HT.out⟩
                case measure => simp [intOf]; omega
              · have HF : Hid (specProgB x = false) := by show _ = _; rw [HV.out, all_no EX.out (by rw [EQ.out]; simp [hkd])]; rfl
                go_wp2
                go_region_held3 (fun z => z.cell? (b.add i) = some (.int .i64 (t : Int)) ∧ z.cell? ⟨w.heap.size, 0, none⟩ = some (.slice (some a') n c) ∧ z.cell? p = some (.int .i64 kd)) (go_keep) ((go_at_call 33; refine (unhide (CI _)).mono ?_; rintro e w8 ⟨rfl, rfl⟩))
                all_goals go_wp2
                all_goals go_ret
                all_goals exact ⟨by rw [HF.out]; rfl, HB.out.trans (B7.out.drew.mono HB.out.size)⟩
          · have hlt' : ¬ (i : Int) < (m : Int) := by omega
            have hall : bs.all (bodyQ x.nodes) = true := LstR.all HA7.out (by rw [EM.out]; omega)
            rw [hall, Bool.true_and] at HV
            clear hall
            go_wp2_with fail
            refine (unhide (CU _ (HN.out.stays B7.out) (HM.out.stays B7.out) (HP.out.stays B7.out) HK.out)).mono ?_
            rintro e w9 ⟨uv, rfl, hown9, hb9⟩
            have B9 := hide (B7.out.trans (hb9.mono B7.out.size))
            have UI : Hid (IntsAt w9 uv (cnt n (bs ++ allKids x.nodes))) := IntsIn.at (CellsIn.own hown9)
            obtain ⟨uo, uc, rfl, _⟩ := UI.out
            rw [cnt_len] at UI ⊢
            clear hown9 hb9 CU c0 c1 c2
            obtain ⟨us, eus⟩ : ∃ us, cnt n (bs ++ allKids x.nodes) = us := ⟨_, rfl⟩
            have EUS : Hid (us.length = n) := by show _ = _; rw [← eus]; exact cnt_len _ _
            have HV2 : Hid (specProgB x = us.all (fun z => decide (z = 1))) := by show _ = _; rw [HV.out, onceB, eus]
            rw [eus] at UI
            clear eus HV
            go_wp2
            go_loopw [8] (LstR w9 us (fun z => decide (z = 1))) (fun iv _ => n - (intOf iv).toNat)
            case atStart => exact ⟨0, by omega, rfl, Below.refl _ _, fun j y hj => absurd hj (Nat.not_lt_zero j)⟩
            case round =>
              obtain ⟨j, hj, rfl, HB10, HA10⟩ := hrel
              rw [EUS.out] at hj
              by_cases hltj : j < n
              · have hltj' : (j : Int) < (n : Int) := by omega
                have hj0 : (0 : Int) ≤ (j : Int) := by omega
                have hjx : j < us.length := by rw [EUS.out]; exact hltj
                obtain ⟨uo', uc', e5, huc⟩ := UI.out.stays HB10.out
                injection e5 with e6 e7 e8
                subst e6
                obtain ⟨b, rfl, _, hy⟩ := huc j hjx
                have EX : Hid (us[j]? = some us[j]) := List.getElem?_eq_getElem hjx
                obtain ⟨y, ey⟩ : ∃ y, us[j] = y := ⟨_, rfl⟩
                rw [ey] at hy EX
                clear ey huc e7 e8
                by_cases hy1 : y = 1
                · subst hy1
                  go_wp2
                  go_roundw
                  case rel => exact ⟨j + 1, by rw [EUS.out]; omega, by go_num, HB10.out, LstR.next HA10.out EX.out rfl⟩
                  case measure => simp [intOf]; omega
                · have HF : Hid (specProgB x = false) := by show _ = _; rw [HV2.out]; exact all_no EX.out (by simp [hy1])
                  go_wp2
                  go_ret
                  exact ⟨by rw [HF.out]; rfl, HB.out.trans ((B9.out.trans (HB10.out.mono B9.out.size)).mono HB.out.size)⟩
              · have hltj' : ¬ (j : Int) < (n : Int) := by omega
                have HF : Hid (specProgB x = true) := by show _ = _; rw [HV2.out]; exact LstR.all HA10.out (by rw [EUS.out]; omega)
                go_wp2
                go_ret
                exact ⟨by rw [HF.out]; rfl, HB.out.trans ((B9.out.trans (HB10.out.mono B9.out.size)).mono HB.out.size)⟩
end Go.Proofs.YtenhmecbebibkaaGreat
