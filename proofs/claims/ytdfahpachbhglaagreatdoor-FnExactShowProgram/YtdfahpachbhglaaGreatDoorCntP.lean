/-
  How often each place is used: counts in a row of numbers.
-/
import Derived.Test.YtdfahpachbhglaaGreatDoorRowP
import Derived.Test.YtdfahpachbhglaaGreatDoorAidCard
import Derived.Test.YtdfahpachbhglaaGreatDoorLawN
import Derived.Test.YtdfahpachbhglaaGreatDoorTreeW
namespace Go.Proofs.YtdfahpachbhglaaGreatDoor
open Go.RowKit

/-- How often each of the first n places stands in a list. -/
def cnt (n : Nat) (u : List Int) : List Int := (List.range n).map fun (j : Nat) => ((u.count (j : Int) : Nat) : Int)
theorem cnt_len (n : Nat) (u : List Int) : (cnt n u).length = n := by simp [cnt]
theorem cnt_at {n : Nat} (u : List Int) {j : Nat} (h : j < n) : (cnt n u).getD j 0 = ((u.count (j : Int) : Nat) : Int) := by
  simp [cnt, List.getD_eq_getElem?_getD, h]
theorem cnt_step {n : Nat} (u : List Int) {y : Nat} (h : y < n) : (cnt n u).set y ((cnt n u).getD y 0 + 1) = cnt n (u ++ [(y : Int)]) := by
  apply List.ext_getElem?
  intro j
  by_cases hj : j < n
  · by_cases hy : y = j
    · subst hy
      rw [List.getElem?_set_self (by rw [cnt_len]; exact h), cnt_at u h]
      simp [cnt, h, List.count_append]
    · rw [List.getElem?_set_ne hy]
      have : ¬ ((y : Int) = (j : Int)) := by omega
      simp [cnt, hj, List.count_append, List.count_singleton, this]
  · rw [List.getElem?_eq_none (by rw [List.length_set, cnt_len]; omega), List.getElem?_eq_none (by rw [cnt_len]; omega)]
theorem cnt_skip {n : Nat} (u : List Int) {y : Int} (h : ¬ (0 ≤ y ∧ y < (n : Int))) : cnt n (u ++ [y]) = cnt n u := by
  unfold cnt
  refine List.map_congr_left fun j hj => ?_
  have hj2 := List.mem_range.1 hj
  have : ¬ (y = (j : Int)) := by omega
  simp [List.count_append, this]
theorem cnt_nil (n : Nat) : cnt n [] = List.replicate n 0 := by
  unfold cnt
  apply List.ext_getElem?
  intro j
  by_cases hj : j < n
  · simp [hj]
  · simp [hj]
theorem cnt_le {n : Nat} (u : List Int) {j : Nat} (h : j < n) : 0 ≤ (cnt n u).getD j 0 ∧ (cnt n u).getD j 0 ≤ u.length := by
  rw [cnt_at u h]
  have := List.count_le_length (a := (j : Int)) (l := u)
  omega
/-- All kids, node by node. -/
def allKids (ns : List Nd) : List Int := ns.flatMap Nd.kids
theorem allKids_take {ns : List Nd} {k : Nat} (h : k < ns.length) : allKids (ns.take (k + 1)) = allKids (ns.take k) ++ ns[k].kids := by
  rw [List.take_succ_eq_append_getElem h, allKids, allKids, List.flatMap_append]
  simp
theorem allKids_len_take (ns : List Nd) (k : Nat) : (allKids (ns.take k)).length ≤ (allKids ns).length := by
  have : allKids ns = allKids (ns.take k) ++ allKids (ns.drop k) := by
    rw [allKids, allKids, allKids, ← List.flatMap_append, List.take_append_drop]
  rw [this, List.length_append]
  omega
/-- Is each node the kid or the body of just one? -/
def onceB (n : Nat) (u : List Int) : Bool := (cnt n u).all (fun x => decide (x = 1))

/-- A row of counts that is owned. -/
theorem ownsCnt_cell {w : World} {base n : Nat} {g cap : Nat} {u : List Int} (h : w.ownsRow base 3 1 (.slice (some ⟨g, 0, none⟩) n cap) n ((cnt n u).map I64)) {j : Nat} (hj : j < n) : w.cell? ⟨g, j, none⟩ = some (.int .i64 ((cnt n u).getD j 0)) ∧ w.frozen? ⟨g, j, none⟩ = false := by
  refine ⟨?_, h.frozenAt j⟩
  rw [h.cellAt j (by omega), List.getElem?_map, List.getD_eq_getElem?_getD, List.getElem?_eq_getElem (by rw [cnt_len]; exact hj)]
  rfl
theorem ownsCnt_step {w : World} {base n : Nat} {g cap : Nat} {u : List Int} (h : w.ownsRow base 3 1 (.slice (some ⟨g, 0, none⟩) n cap) n ((cnt n u).map I64)) {y : Nat} (hy : y < n) :
    (w.setCell ⟨g, y, none⟩ (.int .i64 ((cnt n u).getD y 0 + 1))).ownsRow base 3 1 (.slice (some ⟨g, 0, none⟩) n cap) n ((cnt n (u ++ [(y : Int)])).map I64) := by
  have := (h.stored y (.int .i64 ((cnt n u).getD y 0 + 1))).1
  rw [← cnt_step u hy, List.map_set]
  exact this
end Go.Proofs.YtdfahpachbhglaaGreatDoor

namespace Go.Proofs.YtdfahpachbhglaaGreatDoor
open Go.RowKit

/-- While places are counted: the row of counts, what was there, a row of places beside it. -/
structure CntS (W1 : World) (n : Nat) (bv : Value) (bs u : List Int) (wr : World) : Prop where
  own : wr.ownsRow W1.heap.size 3 1 (.slice (some ⟨W1.heap.size, 0, none⟩) n n) n ((cnt n u).map I64)
  bel : Below W1.heap.size W1 wr
  row : IntsIn (W1.heap.size + 1) wr bv bs
theorem CntS.step {W1 : World} {n : Nat} {bv : Value} {bs u : List Int} {wr : World} (h : CntS W1 n bv bs u wr) {y : Nat} (hy : y < n) : CntS W1 n bv bs (u ++ [(y : Int)]) (wr.setCell ⟨W1.heap.size, y, none⟩ (.int .i64 ((cnt n u).getD y 0 + 1))) :=
  ⟨ownsCnt_step h.own hy, h.bel.setCell (Nat.le_refl _) _, h.row.kept (KeptFrom.setCell (Nat.lt_succ_self _) _ _ _)⟩
theorem CntS.drewN {W1 : World} {n : Nat} {bv : Value} {bs u : List Int} {wr : World} (h : CntS W1 n bv bs u wr) (q : Nat) : CntS W1 n bv bs u (wr.drewN q) :=
  ⟨h.own, below_drewN h.bel q, h.row.kept (KeptFrom.below (below_drewN (Below.refl _ _) q))⟩
theorem CntS.stays {W1 : World} {n : Nat} {bv : Value} {bs u : List Int} {wr w' : World} (h : CntS W1 n bv bs u wr) (hb : Below wr.heap.size wr w') : CntS W1 n bv bs u w' :=
  ⟨ownsInts_stays h.own hb, h.bel.trans (hb.mono h.bel.size), h.row.kept (KeptFrom.below hb)⟩
theorem flat_one (n : Nat) : (List.replicate n [Value.int .i64 0]).flatten = List.replicate n (I64 0) := by
  induction n with
  | zero => rfl
  | succ m ih => rw [List.replicate_succ, List.flatten_cons, ih]; rfl
def UsA (W1 : World) (n : Nat) (bv : Value) (bs : List Int) (iv : Value) (wr : World) : Prop := ∃ i : Nat, i ≤ bs.length ∧ iv = .int .i64 i ∧ Hid (CntS W1 n bv bs (bs.take i) wr)
def UsB (W1 : World) (ns : List Nd) (bv : Value) (bs : List Int) (iv : Value) (wr : World) : Prop := ∃ k : Nat, k ≤ ns.length ∧ iv = .int .i64 k ∧ Hid (CntS W1 ns.length bv bs (bs ++ allKids (ns.take k)) wr)
def UsC (W1 : World) (n : Nat) (bv : Value) (bs u ks : List Int) (iv : Value) (wr : World) : Prop := ∃ i : Nat, i ≤ ks.length ∧ iv = .int .i64 i ∧ Hid (CntS W1 n bv bs (u ++ ks.take i) wr)

set_option maxRecDepth 100000 in
set_option maxHeartbeats 2000000 in
theorem l05Used_any (nv mv pv : Value) (ns : List Nd) (ms : List Mo) (ps : List Pr) (w : World) (hN : NdsAt w nv ns) (hM : MosAt w mv ms) (hP : PrsAt w pv ps) (hl : ns.length ≤ 1048576) (hbl : (bodiesL ms ps).length ≤ 1048576) (hml : ms.length ≤ 1048576) (hpl : ps.length ≤ 1048576) (hel : ∀ m ∈ ms, m.ents.length ≤ 1048576)
    (hkl : (allKids ns).length ≤ 1048576) (hkx : ∀ x ∈ ns, x.kids.length ≤ 1048576) (hK : ∀ x ∈ ns, ∀ y ∈ x.kids, 0 ≤ y ∧ y < (ns.length : Int)) :
    Calls Tryz.prog 32 #[.agg #[nv, mv, pv]] w fun e w' => ∃ v, e = .returned v ∧ w'.ownsRow (w.heap.size + 1) 3 1 v ns.length ((cnt ns.length (bodiesL ms ps ++ allKids ns)).map I64) ∧ Below w.heap.size w w' := by
  have hb1 : Below w.heap.size w (w.alloc (.cells #[nv, mv, pv] 34)) := (Below.refl _ _).alloc (Nat.le_refl _) _
  have HN := hide (hN.stays hb1)
  have HM := hide (hM.stays hb1)
  have HP := hide (hP.stays hb1)
  have HX := hide (Boxed.made w nv mv pv 34)
  have HB := hide hb1
  have HS : Hid ((w.alloc (.cells #[nv, mv, pv] 34)).heap.size = w.heap.size + 1) := by show _ = _; simp
  have CB := fun w h1 h2 => hide (l05Bodies_any nv mv pv ms ps w h1 h2 hbl hml hpl hel)
  clear hb1 hel hml hpl
  obtain ⟨ao, c, rfl, _⟩ := hN
  obtain ⟨mo, mc, rfl, _⟩ := hM
  obtain ⟨po, pc, rfl, _⟩ := hP
  obtain ⟨n, en⟩ : ∃ n, ns.length = n := ⟨_, rfl⟩
  have EN := hide en
  have HKX := hide hkx
  have HK := hide hK
  have HKL := hide hkl
  simp only [en] at HN HM HP HX HB HS CB hl HK ⊢
  clear en hkx hK hkl
  obtain ⟨bs, ebs⟩ : ∃ bs, bodiesL ms ps = bs := ⟨_, rfl⟩
  simp only [ebs] at CB hbl ⊢
  clear ebs
  obtain ⟨W1, hW⟩ : ∃ W1, w.alloc (.cells #[.slice ao n c, .slice mo ms.length mc, .slice po ps.length pc] 34) = W1 := ⟨_, rfl⟩
  obtain ⟨i0, hi, hz0, hz1, hz2⟩ := info_parts (Tryz.infoInt)
  obtain ⟨wm, hmk, hown, hgr⟩ := run_make_full (P := Tryz.prog) W1 W1.heap.size 67 3 i0 (.int .i64 0) 1 Tryz.underlying67 hi hz0 hz1 .i64 .i64 n (by rw [hz2]; omega) (by unfold maxLen; omega) (Nat.le_refl _)
  rw [hW] at HN HM HP HX HB HS
  have OW : Hid (wm.ownsRow W1.heap.size 3 1 (.slice (some ⟨W1.heap.size, 0, none⟩) n n) n ((cnt n []).map I64)) := by
    have e := made_flat [.int .i64 0] (by decide) n
    simp only [List.length_singleton] at e
    have e2 : (cnt n []).map I64 = (List.replicate n [Value.int .i64 0]).flatten := by
      rw [cnt_nil, List.map_replicate]
      exact (flat_one n).symm
    rw [e2, ← e]
    exact hown
  have GB : Hid (Below W1.heap.size W1 wm) := (Below.refl _ _).grown hgr (Nat.le_refl _) (fun k hk => by cases hk)
  rw [HS.out, ← hW] at hmk
  have HWW := hide hW
  clear hown hgr hi hz0 hz1 hz2 hW
  go_enter Tryz.func32, Tryz.ntmps32
  obtain ⟨c0, c1, c2, hlt0⟩ := HX.out.stays GB.out
  go_wp2_with fail
  refine (unhide (CB _ (HM.out.stays GB.out) (HP.out.stays GB.out))).mono ?_
  rintro e w2 ⟨bv, rfl, hown2, hb2⟩
  have ZM : Hid (W1.heap.size < wm.heap.size) := (OW.out.lt _ rfl).2
  have HC : Hid (CntS W1 n bv bs [] w2) := ⟨ownsInts_stays OW.out hb2, GB.out.trans (hb2.mono GB.out.size), (CellsIn.own hown2).mono (by have := ZM.out; omega)⟩
  obtain ⟨bo, bn, bc, ebv⟩ : ∃ bo bn bc, bv = .slice bo bn bc := by
    obtain ⟨o, c, e, _⟩ := HC.out.row
    exact ⟨_, _, _, e⟩
  have hbn : bn = bs.length := by
    obtain ⟨o, c, e, _⟩ := HC.out.row
    rw [ebv] at e
    injection e with _ e _
    rw [e, List.length_map]
  subst ebv
  subst hbn
  clear hb2 hown2 c0 c1 c2 hlt0 CB OW hmk
  rw [← HS.out]
  go_wp2
  obtain ⟨m, em⟩ : ∃ m, bs.length = m := ⟨_, rfl⟩
  have EM := hide em
  rw [em] at HC hbl ⊢
  clear em
  go_loopw [5] (UsA W1 n (.slice bo m bc) bs) (fun iv _ => m - (intOf iv).toNat)
  case atStart => exact ⟨0, by omega, rfl, HC.out⟩
  case round =>
    obtain ⟨i, hi, rfl, HF⟩ := hrel
    rw [EM.out] at hi
    obtain ⟨c0, c1, c2, _⟩ := HX.out.stays HF.out.bel
    by_cases hlt : i < m
    · have hlt' : (i : Int) < (m : Int) := by omega
      have hi0 : (0 : Int) ≤ (i : Int) := by omega
      have hix : i < bs.length := by rw [EM.out]; exact hlt
      obtain ⟨bo', bc', e1, hc1⟩ := HF.out.row.at
      injection e1 with e2 e3 e4
      subst e2
      obtain ⟨b, rfl, _, hx⟩ := hc1 i hix
      have HT : Hid (bs.take (i + 1) = bs.take i ++ [bs[i]]) := List.take_succ_eq_append_getElem hix
      obtain ⟨y, ey⟩ : ∃ y, bs[i] = y := ⟨_, rfl⟩
      rw [ey] at hx HT
      clear ey hc1 e3 e4
      have CI := fun w => hide (l01In_gen y 0 ((n : Int) - 1) w)
      have hwr : IntKind.i64.wrap ((n : Int) - 1) = (n : Int) - 1 := IntWalk.i64_in _ (by omega)
      cases hin : inZ 0 ((n : Int) - 1) y with
      | false =>
        have hno := inZ_no.1 hin
        have HE : Hid (cnt n (bs.take (i + 1)) = cnt n (bs.take i)) := by show _ = _; rw [HT.out, cnt_skip _ (by omega)]
        rw [hin] at CI
        clear hin hno
        go_wp2
        go_region_held3 (fun z => z.cell? (b.add i) = some (.int .i64 y) ∧ z.cell? ⟨w.heap.size, 0, none⟩ = some (.slice ao n c)) (go_keep) ((go_at_call 30; refine (unhide (CI _)).mono ?_; rintro e w3 ⟨rfl, rfl⟩))
        all_goals go_wp2
        all_goals go_roundw
        case rel => exact ⟨i + 1, by rw [EM.out]; omega, by go_num, by
          have h := HF.out.stays (Below.refl _ _).drew
          exact ⟨by rw [HE.out]; exact h.own, h.bel, h.row⟩⟩
        case measure => simp [intOf]; omega
      | true =>
        obtain ⟨hy0, hy1⟩ := inZ_yes.1 hin
        obtain ⟨t, ht⟩ : ∃ t : Nat, y = (t : Int) := ⟨y.toNat, by omega⟩
        subst ht
        rw [hin] at CI
        have htn : t < n := by omega
        have htn' : (t : Int) < (n : Int) := by omega
        have ht0 : (0 : Int) ≤ (t : Int) := by omega
        obtain ⟨k0, f0⟩ := ownsCnt_cell HF.out.own htn
        have hle := cnt_le (n := n) (bs.take i) htn
        rw [List.length_take] at hle
        have HST := hide (HF.out.step htn)
        obtain ⟨q, eq⟩ : ∃ q, (cnt n (bs.take i)).getD t 0 = q := ⟨_, rfl⟩
        rw [eq] at k0 hle HST
        have hq0 : 0 ≤ q := hle.1
        have hq1 : q ≤ 1048576 := by omega
        clear hin eq hle
        go_wp2
        go_region_held3 (fun z => z.cell? (b.add i) = some (.int .i64 (t : Int)) ∧ z.cell? ⟨w.heap.size, 0, none⟩ = some (.slice ao n c)) (go_keep) ((go_at_call 30; refine (unhide (CI _)).mono ?_; rintro e w3 ⟨rfl, rfl⟩))
        all_goals go_wp2
        all_goals go_roundw
        case rel => exact ⟨i + 1, by rw [EM.out]; omega, by go_num, by rw [HT.out]; exact HST.out.stays (Below.refl _ _).drew⟩
        case measure => simp [intOf]; omega
    · have hlt' : ¬ (i : Int) < (m : Int) := by omega
      have HD : Hid (CntS W1 n (.slice bo m bc) bs (bs ++ allKids (ns.take 0)) wr) := by
        have h := HF.out
        rw [List.take_of_length_le (by rw [EM.out]; omega)] at h
        have e : bs ++ allKids (ns.take 0) = bs := by simp [allKids]
        rw [e]
        exact h
      clear HF c0 c1 c2
      go_wp2
      go_loopw [6] (fun iv wr => UsB W1 ns (.slice bo m bc) bs iv wr) (fun iv _ => n - (intOf iv).toNat)
      case atStart => exact ⟨0, by omega, rfl, by rw [EN.out]; exact HD.out⟩
      case round =>
        obtain ⟨k, hk, rfl, HF2⟩ := hrel
        rw [EN.out] at hk HF2
        obtain ⟨c0, c1, c2, _⟩ := HX.out.stays HF2.out.bel
        by_cases hltk : k < n
        · have hltk' : (k : Int) < (n : Int) := by omega
          have hk0 : (0 : Int) ≤ (k : Int) := by omega
          have hkx : k < ns.length := by rw [EN.out]; exact hltk
          have HKT := hide (allKids_take hkx)
          have HKK := hide (HK.out _ (List.getElem_mem hkx))
          have HKN := hide (HKX.out _ (List.getElem_mem hkx))
          have HLT : Hid (bs.length + (allKids (ns.take k)).length + ns[k].kids.length ≤ 2097152) := by
            have h1 := allKids_len_take ns (k + 1)
            rw [allKids_take hkx, List.length_append] at h1
            have h2 := HKL.out
            show _ ≤ _
            rw [EM.out]
            omega
          obtain ⟨x, ex⟩ : ∃ x, ns[k] = x := ⟨_, rfl⟩
          have EX := hide ex
          rw [ex] at HKT HKK HKN HLT
          obtain ⟨kl, ekl⟩ : ∃ kl, x.kids.length = kl := ⟨_, rfl⟩
          have EKL := hide ekl
          have hklb : kl ≤ 1048576 := by rw [← ekl]; exact HKN.out
          clear ex ekl
          go_wp2
          go_loopw [7] (fun iv wr => UsC W1 n (.slice bo m bc) bs (bs ++ allKids (ns.take k)) x.kids iv wr) (fun iv _ => kl - (intOf iv).toNat)
          case atStart => exact ⟨0, by omega, rfl, by rw [List.take_zero, List.append_nil]; exact HF2.out⟩
          case round =>
            clear c0 c1 c2
            obtain ⟨j, hj, rfl, HF3⟩ := hrel
            rw [EKL.out] at hj
            obtain ⟨c0, c1, c2, _⟩ := HX.out.stays HF3.out.bel
            obtain ⟨a', cc', p, kv, e5, hpa, hpb, hnode⟩ := (HN.out.stays HF3.out.bel).node k hkx
            injection e5 with e6 e7 e8
            subst e6
            have d5 := hnode.c5
            have hkr := hnode.kids
            rw [EX.out] at hkr
            obtain ⟨ko, kc, rfl, hkc⟩ := hkr
            rw [EKL.out] at d5
            clear hnode e7 e8
            by_cases hltj : j < kl
            · have hltj' : (j : Int) < (kl : Int) := by omega
              have hj0 : (0 : Int) ≤ (j : Int) := by omega
              have hjx : j < x.kids.length := by rw [EKL.out]; exact hltj
              obtain ⟨b, rfl, _, hy⟩ := hkc j hjx
              have HT : Hid (x.kids.take (j + 1) = x.kids.take j ++ [x.kids[j]]) := List.take_succ_eq_append_getElem hjx
              obtain ⟨hy0, hy1⟩ := HKK.out _ (List.getElem_mem hjx)
              obtain ⟨y, ey⟩ : ∃ y, x.kids[j] = y := ⟨_, rfl⟩
              rw [ey] at hy HT hy0 hy1
              obtain ⟨t, ht⟩ : ∃ t : Nat, y = (t : Int) := ⟨y.toNat, by omega⟩
              subst ht
              clear ey hkc
              have htn : t < n := by omega
              obtain ⟨k0, f0⟩ := ownsCnt_cell HF3.out.own htn
              have hle := cnt_le (n := n) (bs ++ allKids (ns.take k) ++ x.kids.take j) htn
              have HST := hide (HF3.out.step htn)
              obtain ⟨q, eq⟩ : ∃ q, (cnt n (bs ++ allKids (ns.take k) ++ x.kids.take j)).getD t 0 = q := ⟨_, rfl⟩
              rw [eq] at k0 hle HST
              have hq0 : 0 ≤ q := hle.1
              have hq1 : q ≤ 2097152 := by
                have h1 := hle.2
                have h2 := HLT.out
                rw [List.length_append, List.length_append, List.length_take] at h1
                omega
              clear eq hle
              go_wp2
              go_roundw
              case rel =>
                refine ⟨j + 1, ?_, by go_num, ?_⟩
                · rw [EKL.out]; omega
                · rw [HT.out, ← List.append_assoc]; exact HST.out
              case measure => simp [intOf]; omega
            · have hltj' : ¬ (j : Int) < (kl : Int) := by omega
              have HE : Hid (CntS W1 n (.slice bo m bc) bs (bs ++ allKids (ns.take (k + 1))) wr) := by
                have h := HF3.out
                rw [List.take_of_length_le (l := x.kids) (i := j) (by rw [EKL.out]; omega), List.append_assoc, ← HKT.out] at h
                exact h
              go_wp2
              go_roundw
              case rel => exact ⟨k + 1, by rw [EN.out]; omega, by go_num, by rw [EN.out]; exact HE.out⟩
              case measure => simp [intOf]; omega
        · have hltk' : ¬ (k : Int) < (n : Int) := by omega
          go_wp2
          go_ret
          refine ⟨_, rfl, ?_, HB.out.trans (HF2.out.bel.mono (by rw [HS.out]; omega))⟩
          have h := HF2.out.own
          rw [List.take_of_length_le (by rw [EN.out]; omega)] at h
          rw [HS.out] at h ⊢
          exact h
end Go.Proofs.YtdfahpachbhglaaGreatDoor
