/-
  Walks: each node owned once, by the program.
-/
import Derived.Test.YtdfahpachbhglaaGreatDoorLawN
import Derived.Test.YtdfahpachbhglaaGreatDoorCntP
import Derived.Test.YtdfahpachbhglaaGreatDoorImpI
import Derived.Test.YtdfahpachbhglaaGreatDoorAidCard
import Derived.Test.YtdfahpachbhglaaGreatDoorTreeW
import Derived.Handy
namespace Go.Proofs.YtdfahpachbhglaaGreatDoor
open Go.RowKit

def UsD (W1 : World) (ns : List Nd) (bv : Value) (bs : List Int) (iv : Value) (wr : World) : Prop := ∃ k : Nat, k ≤ ns.length ∧ iv = .int .i64 k ∧ Hid (CntS W1 ns.length bv bs (bs ++ allKids (ns.take k)) wr)
def UsE (W1 : World) (n : Nat) (bv : Value) (bs u : List Int) (iv : Value) (wr : World) : Prop := ∃ k : Nat, k ≤ n ∧ iv = .int .i64 k ∧ Hid (CntS W1 n bv bs u wr) ∧ Hid (∀ (j : Nat) (y : Int), j < k → (cnt n u)[j]? = some y → decide (y = 1) = true)

set_option maxRecDepth 100000 in
set_option maxHeartbeats 4000000 in
theorem ownedOnce_any (nv mv pv : Value) (ns : List Nd) (ms : List Mo) (ps : List Pr) (w : World) (hN : NdsAt w nv ns) (hM : MosAt w mv ms) (hP : PrsAt w pv ps) (hl : ns.length ≤ 1048576) (hbl : (bodiesL ms ps).length ≤ 1048576) (hml : ms.length ≤ 1048576) (hpl : ps.length ≤ 1048576) (hel : ∀ m ∈ ms, m.ents.length ≤ 1048576)
    (hkl : (allKids ns).length ≤ 1048576) (hkx : ∀ x ∈ ns, x.kids.length ≤ 1048576) (hK : ∀ x ∈ ns, ∀ y ∈ x.kids, 0 ≤ y ∧ y < (ns.length : Int)) :
    Calls Tryz.prog 40 #[.agg #[nv, mv, pv]] w fun e w' => e = .returned (.bool ((bodiesL ms ps).all (standQ ns 3) && onceB ns.length (bodiesL ms ps ++ allKids ns))) ∧ Below w.heap.size w w' := by
  have hb1 : Below w.heap.size w (w.alloc (.cells #[nv, mv, pv] 34)) := (Below.refl _ _).alloc (Nat.le_refl _) _
  have HN := hide (hN.stays hb1)
  have HM := hide (hM.stays hb1)
  have HP := hide (hP.stays hb1)
  have HX := hide (Boxed.made w nv mv pv 34)
  have HB := hide hb1
  have HS : Hid ((w.alloc (.cells #[nv, mv, pv] 34)).heap.size = w.heap.size + 1) := by show _ = _; simp
  have CB := fun w h1 h2 => hide (bodies_any nv mv pv ms ps w h1 h2 hbl hml hpl hel)
  have CS := fun v w h1 h2 => hide (stand_any nv mv pv v ns 3 (bodiesL ms ps) w h1 h2 hl hbl)
  clear hb1 hel hml hpl
  obtain ⟨ao, c, rfl, _⟩ := hN
  obtain ⟨mo, mc, rfl, _⟩ := hM
  obtain ⟨po, pc, rfl, _⟩ := hP
  obtain ⟨n, en⟩ : ∃ n, ns.length = n := ⟨_, rfl⟩
  have EN := hide en
  have HKX := hide hkx
  have HK := hide hK
  have HKL := hide hkl
  simp only [en] at HN HM HP HX HB HS CB CS hl HK ⊢
  clear en hkx hK hkl
  have HSQ : Hid (∀ b ∈ bodiesL ms ps, standQ ns 3 b = true → 0 ≤ b ∧ b < (n : Int)) := fun b _ hq => by
    rw [standQ, Bool.and_eq_true, EN.out] at hq
    have := inZ_yes.1 hq.1
    omega
  obtain ⟨bs, ebs⟩ : ∃ bs, bodiesL ms ps = bs := ⟨_, rfl⟩
  simp only [ebs] at CB CS hbl HSQ ⊢
  clear ebs
  obtain ⟨st, est⟩ : ∃ st, bs.all (standQ ns 3) = st := ⟨_, rfl⟩
  have EST := hide est
  simp only [est] at CS ⊢
  clear est
  obtain ⟨W1, hW⟩ : ∃ W1, w.alloc (.cells #[.slice ao n c, .slice mo ms.length mc, .slice po ps.length pc] 34) = W1 := ⟨_, rfl⟩
  obtain ⟨i0, hi, hz0, hz1, hz2⟩ := info_parts (Tryz.infoInt)
  obtain ⟨wm, hmk, hown, hgr⟩ := run_make_full (P := Tryz.prog) W1 W1.heap.size 67 3 i0 (.int .i64 0) 1 Tryz.underlying67 hi hz0 hz1 .i64 .i64 n (by rw [hz2]; omega) (by unfold maxLen; omega) (Nat.le_refl _)
  rw [hW] at HN HM HP HX HB HS
  have OW : Hid (wm.ownsRow W1.heap.size 3 1 (.slice (some ⟨W1.heap.size, 0, none⟩) n n) n ((cnt n []).map I64)) := by
    have e := made_flat [.int .i64 0] (by decide) n
    simp only [List.length_singleton] at e
    have e2 : (cnt n []).map I64 = (List.replicate n [Value.int .i64 0]).flatten := by
      rw [cnt_nil, List.map_replicate]
      exact (flat_one n).symm
    rw [e2, ← e]
    exact hown
  have GB : Hid (Below W1.heap.size W1 wm) := (Below.refl _ _).grown hgr (Nat.le_refl _) (fun k hk => by cases hk)
  rw [HS.out, ← hW] at hmk
  have HWW := hide hW
  clear hown hgr hi hz0 hz1 hz2 hW
  go_enter Tryz.func40, Tryz.ntmps40
  obtain ⟨c0, c1, c2, hlt0⟩ := HX.out.stays GB.out
  go_wp2_with fail
  refine (unhide (CB _ (HM.out.stays GB.out) (HP.out.stays GB.out))).mono ?_
  rintro e w2 ⟨bv, rfl, hown2, hb2⟩
  have ZM : Hid (W1.heap.size < wm.heap.size) := (OW.out.lt _ rfl).2
  have HC : Hid (CntS W1 n bv bs [] w2) := ⟨ownsInts_stays OW.out hb2, GB.out.trans (hb2.mono GB.out.size), (CellsIn.own hown2).mono (by have := ZM.out; omega)⟩
  obtain ⟨bo, bn, bc, ebv⟩ : ∃ bo bn bc, bv = .slice bo bn bc := by
    obtain ⟨o, c, e, _⟩ := HC.out.row
    exact ⟨_, _, _, e⟩
  have hbn : bn = bs.length := by
    obtain ⟨o, c, e, _⟩ := HC.out.row
    rw [ebv] at e
    injection e with _ e _
    rw [e, List.length_map]
  subst ebv
  subst hbn
  clear hb2 hown2 c0 c1 c2 hlt0 CB OW hmk
  rw [← HS.out]
  obtain ⟨c0, c1, c2, _⟩ := HX.out.stays HC.out.bel
  go_wp2_with fail
  refine (unhide (CS _ _ (HN.out.stays HC.out.bel) HC.out.row.at)).mono ?_
  rintro e w3 ⟨rfl, hb3⟩
  have HC3 := hide (HC.out.stays hb3)
  clear hb3 HC c0 c1 c2 CS
  obtain ⟨c0, c1, c2, _⟩ := HX.out.stays HC3.out.bel
  cases st with
  | false =>
    go_wp2
    go_ret
    exact ⟨rfl, HB.out.trans (HC3.out.bel.mono (by rw [HS.out]; omega))⟩
  | true =>
    have HBI : Hid (∀ b ∈ bs, 0 ≤ b ∧ b < (n : Int)) := fun b hb => HSQ.out b hb (List.all_eq_true.1 EST.out b hb)
    clear HSQ
    obtain ⟨m, em⟩ : ∃ m, bs.length = m := ⟨_, rfl⟩
    have EM := hide em
    rw [em] at HC3 hbl ⊢
    clear em
    go_wp2
    go_loopw [25] (UsA W1 n (.slice bo m bc) bs) (fun iv _ => m - (intOf iv).toNat)
    case atStart => exact ⟨0, by omega, rfl, HC3.out⟩
    case round =>
      clear c0 c1 c2
      obtain ⟨i, hi, rfl, HF⟩ := hrel
      rw [EM.out] at hi
      obtain ⟨c0, c1, c2, _⟩ := HX.out.stays HF.out.bel
      by_cases hlt : i < m
      · have hlt' : (i : Int) < (m : Int) := by omega
        have hi0 : (0 : Int) ≤ (i : Int) := by omega
        have hix : i < bs.length := by rw [EM.out]; exact hlt
        obtain ⟨bo', bc', e1, hc1⟩ := HF.out.row.at
        injection e1 with e2 e3 e4
        subst e2
        obtain ⟨b, rfl, _, hx⟩ := hc1 i hix
        have HT : Hid (bs.take (i + 1) = bs.take i ++ [bs[i]]) := List.take_succ_eq_append_getElem hix
        obtain ⟨hy0, hy1⟩ := HBI.out _ (List.getElem_mem hix)
        obtain ⟨y, ey⟩ : ∃ y, bs[i] = y := ⟨_, rfl⟩
        rw [ey] at hx HT hy0 hy1
        obtain ⟨t, ht⟩ : ∃ t : Nat, y = (t : Int) := ⟨y.toNat, by omega⟩
        subst ht
        clear ey hc1 e3 e4
        have htn : t < n := by omega
        obtain ⟨k0, f0⟩ := ownsCnt_cell HF.out.own htn
        have hle := cnt_le (n := n) (bs.take i) htn
        rw [List.length_take] at hle
        have HST := hide (HF.out.step htn)
        obtain ⟨q, eq⟩ : ∃ q, (cnt n (bs.take i)).getD t 0 = q := ⟨_, rfl⟩
        rw [eq] at k0 hle HST
        have hq0 : 0 ≤ q := hle.1
        have hq1 : q ≤ 1048576 := by omega
        clear eq hle
        go_wp2
        go_roundw
        case rel => exact ⟨i + 1, by rw [EM.out]; omega, by go_num, by rw [HT.out]; exact HST.out⟩
        case measure => simp [intOf]; omega
      · have hlt' : ¬ (i : Int) < (m : Int) := by omega
        have HD : Hid (CntS W1 n (.slice bo m bc) bs (bs ++ allKids (ns.take 0)) wr) := by
          have h := HF.out
          rw [List.take_of_length_le (by rw [EM.out]; omega)] at h
          have e : bs ++ allKids (ns.take 0) = bs := by simp [allKids]
          rw [e]
          exact h
        clear HF
        go_wp2
        go_loopw [39] (fun iv wr => UsB W1 ns (.slice bo m bc) bs iv wr) (fun iv _ => n - (intOf iv).toNat)
        case atStart => exact ⟨0, by omega, rfl, by rw [EN.out]; exact HD.out⟩
        case round =>
          clear c0 c1 c2
          obtain ⟨k, hk, rfl, HF2⟩ := hrel
          rw [EN.out] at hk HF2
          obtain ⟨c0, c1, c2, _⟩ := HX.out.stays HF2.out.bel
          by_cases hltk : k < n
          · have hltk' : (k : Int) < (n : Int) := by omega
            have hk0 : (0 : Int) ≤ (k : Int) := by omega
            have hkx : k < ns.length := by rw [EN.out]; exact hltk
            have HKT := hide (allKids_take hkx)
            have HKK := hide (HK.out _ (List.getElem_mem hkx))
            have HKN := hide (HKX.out _ (List.getElem_mem hkx))
            have HLT : Hid (bs.length + (allKids (ns.take k)).length + ns[k].kids.length ≤ 2097152) := by
              have h1 := allKids_len_take ns (k + 1)
              rw [allKids_take hkx, List.length_append] at h1
              have h2 := HKL.out
              show _ ≤ _
              rw [EM.out]
              omega
            obtain ⟨a', cc', p, kv, e5, hpa, hpb, hnode⟩ := HN.out.node k hkx
            injection e5 with e6 e7 e8
            subst e6
            have HKI := hide hnode.kids
            have hnode2 := hnode.stays HF2.out.bel hpb
            obtain ⟨x, ex⟩ : ∃ x, ns[k] = x := ⟨_, rfl⟩
            rw [ex] at HKT HKK HKN HLT hnode2 HKI
            obtain ⟨d0, d1, d2, d3, d4, d5, hkids⟩ := hnode2
            obtain ⟨ko, kc, rfl, _⟩ := hkids
            obtain ⟨kl, ekl⟩ : ∃ kl, x.kids.length = kl := ⟨_, rfl⟩
            have EKL := hide ekl
            have hklb : kl ≤ 1048576 := by rw [← ekl]; exact HKN.out
            rw [ekl] at d5 HKI
            clear ex ekl e7 e8 hnode
            have hb4 : Below wr.heap.size wr (wr.alloc (.cells #[.int .i64 x.kind, .int .i64 x.num, .string x.name, .string x.more, .string x.into, .slice ko kl kc] 78)) := (Below.refl _ _).alloc (Nat.le_refl _) _
            have HF4 := hide (HF2.out.stays hb4)
            clear hb4
            go_wp2
            go_loopw [46] (fun iv wr => UsC W1 n (.slice bo m bc) bs (bs ++ allKids (ns.take k)) x.kids iv wr) (fun iv _ => kl - (intOf iv).toNat)
            case atStart => exact ⟨0, by omega, rfl, by rw [List.take_zero, List.append_nil]; exact HF4.out⟩
            case round =>
              clear c0 c1 c2 d0 d1 d2 d3 d4 d5
              obtain ⟨j, hj, rfl, HF3⟩ := hrel
              rw [EKL.out] at hj
              by_cases hltj : j < kl
              · have hltj' : (j : Int) < (kl : Int) := by omega
                have hj0 : (0 : Int) ≤ (j : Int) := by omega
                have hjx : j < x.kids.length := by rw [EKL.out]; exact hltj
                obtain ⟨ko', kc', e5, hkc⟩ := HKI.out.stays HF3.out.bel
                injection e5 with e6 e7 e8
                subst e6
                obtain ⟨b, rfl, _, hy⟩ := hkc j hjx
                have HT : Hid (x.kids.take (j + 1) = x.kids.take j ++ [x.kids[j]]) := List.take_succ_eq_append_getElem hjx
                obtain ⟨hy0, hy1⟩ := HKK.out _ (List.getElem_mem hjx)
                obtain ⟨y, ey⟩ : ∃ y, x.kids[j] = y := ⟨_, rfl⟩
                rw [ey] at hy HT hy0 hy1
                obtain ⟨t, ht⟩ : ∃ t : Nat, y = (t : Int) := ⟨y.toNat, by omega⟩
                subst ht
                clear ey hkc e7 e8
                have htn : t < n := by omega
                obtain ⟨k0, f0⟩ := ownsCnt_cell HF3.out.own htn
                have hle := cnt_le (n := n) (bs ++ allKids (ns.take k) ++ x.kids.take j) htn
                have HST := hide (HF3.out.step htn)
                obtain ⟨q, eq⟩ : ∃ q, (cnt n (bs ++ allKids (ns.take k) ++ x.kids.take j)).getD t 0 = q := ⟨_, rfl⟩
                rw [eq] at k0 hle HST
                have hq0 : 0 ≤ q := hle.1
                have hq1 : q ≤ 2097152 := by
                  have h1 := hle.2
                  have h2 := HLT.out
                  rw [List.length_append, List.length_append, List.length_take] at h1
                  omega
                clear eq hle
                go_wp2
                go_roundw
                case rel =>
                  refine ⟨j + 1, ?_, by go_num, ?_⟩
                  · rw [EKL.out]; omega
                  · rw [HT.out, ← List.append_assoc]; exact HST.out
                case measure => simp [intOf]; omega
              · have hltj' : ¬ (j : Int) < (kl : Int) := by omega
                have HE : Hid (CntS W1 n (.slice bo m bc) bs (bs ++ allKids (ns.take (k + 1))) wr) := by
                  have h := HF3.out
                  rw [List.take_of_length_le (l := x.kids) (i := j) (by rw [EKL.out]; omega), List.append_assoc, ← HKT.out] at h
                  exact h
                go_wp2
                go_roundw
                case rel => exact ⟨k + 1, by rw [EN.out]; omega, by go_num, by rw [EN.out]; exact HE.out⟩
                case measure => simp [intOf]; omega
          · have hltk' : ¬ (k : Int) < (n : Int) := by omega
            have HG : Hid (CntS W1 n (.slice bo m bc) bs (bs ++ allKids ns) wr) := by
              have h := HF2.out
              rw [List.take_of_length_le (by rw [EN.out]; omega)] at h
              exact h
            clear HF2
            go_wp2
            go_loopw [60] (fun iv wr => UsE W1 n (.slice bo m bc) bs (bs ++ allKids ns) iv wr) (fun iv _ => n - (intOf iv).toNat)
            case atStart => exact ⟨0, by omega, rfl, HG.out, fun j y hj => absurd hj (Nat.not_lt_zero j)⟩
            case round =>
              obtain ⟨j, hj, rfl, HF3, HA⟩ := hrel
              by_cases hltj : j < n
              · have hltj' : (j : Int) < (n : Int) := by omega
                have hj0 : (0 : Int) ≤ (j : Int) := by omega
                obtain ⟨k0, _⟩ := ownsCnt_cell HF3.out.own hltj
                have EC : Hid ((cnt n (bs ++ allKids ns))[j]? = some ((cnt n (bs ++ allKids ns)).getD j 0)) := by
                  show _ = _
                  rw [List.getD_eq_getElem?_getD, List.getElem?_eq_getElem (by rw [cnt_len]; exact hltj)]
                  rfl
                obtain ⟨q, eq⟩ : ∃ q, (cnt n (bs ++ allKids ns)).getD j 0 = q := ⟨_, rfl⟩
                rw [eq] at k0 EC
                clear eq
                by_cases hq : q = 1
                · subst hq
                  go_wp2
                  go_roundw
                  case rel => exact ⟨j + 1, by omega, by go_num, HF3.out, fun i z hi hz => by
                    rcases Nat.lt_succ_iff_lt_or_eq.1 hi with h | h
                    · exact HA.out i z h hz
                    · subst h; rw [EC.out] at hz; cases hz; rfl⟩
                  case measure => simp [intOf]; omega
                · have HF : Hid (onceB n (bs ++ allKids ns) = false) := all_no EC.out (by simp [hq])
                  go_wp2
                  go_ret
                  exact ⟨by rw [HF.out]; rfl, HB.out.trans (HF3.out.bel.mono (by rw [HS.out]; omega))⟩
              · have hltj' : ¬ (j : Int) < (n : Int) := by omega
                have HF : Hid (onceB n (bs ++ allKids ns) = true) := all_yes (fun i z hz => HA.out i z (by have := (List.getElem?_eq_some_iff.1 hz).1; rw [cnt_len] at this; omega) hz)
                go_wp2
                go_ret
                exact ⟨by rw [HF.out]; rfl, HB.out.trans (HF3.out.bel.mono (by rw [HS.out]; omega))⟩
end Go.Proofs.YtdfahpachbhglaaGreatDoor

namespace Go.Proofs.YtdfahpachbhglaaGreatDoor
open Go.RowKit

def fitM (x : Mo) : Bool := decide (x.vars.length ≤ 3) && decide (x.queues.length ≤ 2) && (decide (1 ≤ x.ents.length) && decide (x.ents.length ≤ 3))
def fitP (x : Pr) : Bool := decide (x.uses.length ≤ 3) && decide (x.vars.length ≤ 3)
def fitsB (n : Nat) (ms : List Mo) (ps : List Pr) : Bool := (decide (n ≤ 160) && decide (ms.length ≤ 3)) && (decide (1 ≤ ps.length) && decide (ps.length ≤ 4)) && (ms.all fitM && ps.all fitP)
def FitR {α : Type} (W : World) (xs : List α) (q : α → Bool) (iv : Value) (wr : World) : Prop :=
  ∃ i : Nat, i ≤ xs.length ∧ iv = .int .i64 i ∧ Hid (Below W.heap.size W wr) ∧ Hid (∀ (j : Nat) (x : α), j < i → xs[j]? = some x → q x = true)
theorem FitR.no {α : Type} {q : α → Bool} {l : List α} {i : Nat} {x : α} (h : l[i]? = some x) (hq : q x = false) : l.all q = false := by
  rw [List.all_eq_false]
  exact ⟨x, List.mem_of_getElem? h, by simp [hq]⟩
theorem FitR.all {α : Type} {q : α → Bool} {l : List α} {i : Nat} (h : ∀ (j : Nat) (x : α), j < i → l[j]? = some x → q x = true) (hi : l.length ≤ i) : l.all q = true := by
  rw [List.all_eq_true]
  intro x hx
  obtain ⟨j, hj⟩ := List.mem_iff_getElem?.1 hx
  exact h j x (by have := (List.getElem?_eq_some_iff.1 hj).1; omega) hj

set_option maxRecDepth 100000 in
set_option maxHeartbeats 4000000 in
theorem fitsP_any (nv mv pv : Value) (ns : List Nd) (ms : List Mo) (ps : List Pr) (w : World) (hN : NdsAt w nv ns) (hM : MosAt w mv ms) (hP : PrsAt w pv ps) :
    Calls Tryz.prog 37 #[.agg #[nv, mv, pv]] w fun e w' => e = .returned (.bool (fitsB ns.length ms ps)) ∧ Below w.heap.size w w' := by
  have hb1 : Below w.heap.size w (w.alloc (.cells #[nv, mv, pv] 34)) := (Below.refl _ _).alloc (Nat.le_refl _) _
  have HM := hide (hM.stays hb1)
  have HP := hide (hP.stays hb1)
  have HX := hide (Boxed.made w nv mv pv 34)
  have HB := hide hb1
  clear hb1
  obtain ⟨ao, c, rfl, _⟩ := hN
  obtain ⟨mo, mc, rfl, _⟩ := hM
  obtain ⟨po, pc, rfl, _⟩ := hP
  obtain ⟨n, en⟩ : ∃ n, ns.length = n := ⟨_, rfl⟩
  rw [en] at HM HP HX HB ⊢
  obtain ⟨m, em⟩ : ∃ m, ms.length = m := ⟨_, rfl⟩
  have EM := hide em
  obtain ⟨q, eq⟩ : ∃ q, ps.length = q := ⟨_, rfl⟩
  have EQ := hide eq
  rw [em, eq] at HM HP HX HB ⊢
  have HU : Hid (fitsB n ms ps = ((decide (n ≤ 160) && decide (m ≤ 3)) && (decide (1 ≤ q) && decide (q ≤ 4)) && (ms.all fitM && ps.all fitP))) := by show _ = _; rw [fitsB, em, eq]
  clear en em eq
  by_cases h1 : n ≤ 160
  case neg =>
    have h1' : (160 : Int) < (n : Int) := by omega
    have HF : Hid (fitsB n ms ps = false) := by show _ = _; rw [HU.out]; simp [h1]
    go_enter Tryz.func37, Tryz.ntmps37
    (
  go_wp2;
  go_ret;
  exact ⟨by rw [HF.out]; rfl, HB.out⟩)
  have h1' : ¬ (160 : Int) < (n : Int) := by omega
  by_cases h2 : m ≤ 3
  case neg =>
    have h2' : (3 : Int) < (m : Int) := by omega
    have HF : Hid (fitsB n ms ps = false) := by show _ = _; rw [HU.out]; simp [h2]
    go_enter Tryz.func37, Tryz.ntmps37
    (
  go_wp2;
  go_ret;
  exact ⟨by rw [HF.out]; rfl, HB.out⟩)
  have h2' : ¬ (3 : Int) < (m : Int) := by omega
  by_cases h3 : 1 ≤ q
  case neg =>
    have h3' : (q : Int) < 1 := by omega
    have HF : Hid (fitsB n ms ps = false) := by show _ = _; rw [HU.out]; simp [h3]
    go_enter Tryz.func37, Tryz.ntmps37
    (
  go_wp2;
  go_ret;
  exact ⟨by rw [HF.out]; rfl, HB.out⟩)
  have h3' : ¬ (q : Int) < 1 := by omega
  by_cases h4 : q ≤ 4
  case neg =>
    have h4' : (4 : Int) < (q : Int) := by omega
    have HF : Hid (fitsB n ms ps = false) := by show _ = _; rw [HU.out]; simp [h4]
    go_enter Tryz.func37, Tryz.ntmps37
    (
  go_wp2;
  go_ret;
  exact ⟨by rw [HF.out]; rfl, HB.out⟩)
  have h4' : ¬ (4 : Int) < (q : Int) := by omega
  have HV : Hid (fitsB n ms ps = (ms.all fitM && ps.all fitP)) := by show _ = _; rw [HU.out]; simp [h1, h2, h3, h4]
  clear HU
  go_enter Tryz.func37, Tryz.ntmps37
  go_wp2
  obtain ⟨W1, hW⟩ : ∃ W1, w.alloc (.cells #[.slice ao n c, .slice mo m mc, .slice po q pc] 34) = W1 := ⟨_, rfl⟩
  rw [hW] at HM HP HX HB ⊢
  clear hW
  go_loopw [30] (FitR W1 ms fitM) (fun iv _ => m - (intOf iv).toNat)
  case atStart => exact ⟨0, by omega, rfl, Below.refl _ _, fun j x hj => absurd hj (Nat.not_lt_zero j)⟩
  case round =>
    obtain ⟨i, hi, rfl, HB2, HA⟩ := hrel
    rw [EM.out] at hi
    obtain ⟨c0, c1, c2, _⟩ := HX.out.stays HB2.out
    by_cases hlt : i < m
    · have hlt' : (i : Int) < (m : Int) := by omega
      have hi0 : (0 : Int) ≤ (i : Int) := by omega
      have hix : i < ms.length := by rw [EM.out]; exact hlt
      have EX : Hid (ms[i]? = some ms[i]) := List.getElem?_eq_getElem hix
      obtain ⟨mo', cc, e5, hc⟩ := HM.out.stays HB2.out
      injection e5 with e6 e7 e8
      subst e6
      obtain ⟨a, vv, qv, ev, rfl, hab, hcell⟩ := hc i hix
      obtain ⟨p, hpa⟩ : ∃ p, a.add (i * 4) = p := ⟨_, rfl⟩
      rw [hpa] at hcell
      obtain ⟨x, ex⟩ : ∃ x, ms[i] = x := ⟨_, rfl⟩
      rw [ex] at hcell EX
      obtain ⟨d0, d1, d2, d3, hv1, hv2, hv3⟩ := hcell
      obtain ⟨vo, vc, rfl, _⟩ := hv1
      obtain ⟨qo, qc, rfl, _⟩ := hv2
      obtain ⟨eo, ec, rfl, _⟩ := hv3
      clear ex hc e7 e8
      have HUM : Hid (fitM x = (decide (x.vars.length ≤ 3) && decide (x.queues.length ≤ 2) && (decide (1 ≤ x.ents.length) && decide (x.ents.length ≤ 3)))) := rfl
      obtain ⟨s1, es1⟩ : ∃ s1, x.vars.length = s1 := ⟨_, rfl⟩
      obtain ⟨s2, es2⟩ : ∃ s2, x.queues.length = s2 := ⟨_, rfl⟩
      obtain ⟨s3, es3⟩ : ∃ s3, x.ents.length = s3 := ⟨_, rfl⟩
      rw [es1] at d1 HUM
      rw [es2] at d2 HUM
      rw [es3] at d3 HUM
      have HB3 : Hid (Below W1.heap.size W1 (wr.alloc (.cells #[.string x.name, .slice vo s1 vc, .slice qo s2 qc, .slice eo s3 ec] 45))) := HB2.out.alloc HB2.out.size _
      clear es1 es2 es3
      by_cases g1 : s1 ≤ 3
      case neg =>
        have g1' : (3 : Int) < (s1 : Int) := by omega
        have HF : Hid (fitsB n ms ps = false) := by show _ = _; rw [HV.out, FitR.no EX.out (by rw [HUM.out]; simp [g1])]; rfl
        go_wp2
        go_ret
        exact ⟨by rw [HF.out]; rfl, HB.out.trans (HB3.out.mono HB.out.size)⟩
      have g1' : ¬ (3 : Int) < (s1 : Int) := by omega
      by_cases g2 : s2 ≤ 2
      case neg =>
        have g2' : (2 : Int) < (s2 : Int) := by omega
        have HF : Hid (fitsB n ms ps = false) := by show _ = _; rw [HV.out, FitR.no EX.out (by rw [HUM.out]; simp [g2])]; rfl
        go_wp2
        go_ret
        exact ⟨by rw [HF.out]; rfl, HB.out.trans (HB3.out.mono HB.out.size)⟩
      have g2' : ¬ (2 : Int) < (s2 : Int) := by omega
      by_cases g3 : 1 ≤ s3
      case neg =>
        have g3' : (s3 : Int) < 1 := by omega
        have HF : Hid (fitsB n ms ps = false) := by show _ = _; rw [HV.out, FitR.no EX.out (by rw [HUM.out]; simp [g3])]; rfl
        go_wp2
        go_ret
        exact ⟨by rw [HF.out]; rfl, HB.out.trans (HB3.out.mono HB.out.size)⟩
      have g3' : ¬ (s3 : Int) < 1 := by omega
      by_cases g4 : s3 ≤ 3
      case neg =>
        have g4' : (3 : Int) < (s3 : Int) := by omega
        have HF : Hid (fitsB n ms ps = false) := by show _ = _; rw [HV.out, FitR.no EX.out (by rw [HUM.out]; simp [g4])]; rfl
        go_wp2
        go_ret
        exact ⟨by rw [HF.out]; rfl, HB.out.trans (HB3.out.mono HB.out.size)⟩
      have g4' : ¬ (3 : Int) < (s3 : Int) := by omega
      have HT : Hid (fitM x = true) := by show _ = _; rw [HUM.out]; simp [g1, g2, g3, g4]
      go_wp2
      go_roundw
      case rel => exact ⟨i + 1, by rw [EM.out]; omega, by go_num, HB3.out, fun j y hj hy => by
        rcases Nat.lt_succ_iff_lt_or_eq.1 hj with h | h
        · exact HA.out j y h hy
        · subst h; rw [EX.out] at hy; cases hy; exact HT.out⟩
      case measure => simp [intOf]; omega
    · have hlt' : ¬ (i : Int) < (m : Int) := by omega
      have HV2 : Hid (fitsB n ms ps = ps.all fitP) := by show _ = _; rw [HV.out, FitR.all HA.out (by rw [EM.out]; omega)]; rfl
      go_wp2
      go_loopw [60] (FitR W1 ps fitP) (fun iv _ => q - (intOf iv).toNat)
      case atStart => exact ⟨0, by omega, rfl, HB2.out, fun j x hj => absurd hj (Nat.not_lt_zero j)⟩
      case round =>
        clear c0 c1 c2
        obtain ⟨k, hk, rfl, HB4, HA4⟩ := hrel
        rw [EQ.out] at hk
        by_cases hltk : k < q
        · have hltk' : (k : Int) < (q : Int) := by omega
          have hk0 : (0 : Int) ≤ (k : Int) := by omega
          have hkx : k < ps.length := by rw [EQ.out]; exact hltk
          have EX : Hid (ps[k]? = some ps[k]) := List.getElem?_eq_getElem hkx
          obtain ⟨po', cc, e5, hc⟩ := HP.out.stays HB4.out
          injection e5 with e6 e7 e8
          subst e6
          obtain ⟨a, uv, vv, rfl, hab, hcell⟩ := hc k hkx
          obtain ⟨p, hpa⟩ : ∃ p, a.add (k * 4) = p := ⟨_, rfl⟩
          rw [hpa] at hcell
          obtain ⟨x, ex⟩ : ∃ x, ps[k] = x := ⟨_, rfl⟩
          rw [ex] at hcell EX
          obtain ⟨d0, d1, d2, d3, hv1, hv2⟩ := hcell
          obtain ⟨uo, uc, rfl, _⟩ := hv1
          obtain ⟨vo, vc, rfl, _⟩ := hv2
          clear ex hc e7 e8
          have HUM : Hid (fitP x = (decide (x.uses.length ≤ 3) && decide (x.vars.length ≤ 3))) := rfl
          obtain ⟨s1, es1⟩ : ∃ s1, x.uses.length = s1 := ⟨_, rfl⟩
          obtain ⟨s2, es2⟩ : ∃ s2, x.vars.length = s2 := ⟨_, rfl⟩
          rw [es1] at d1 HUM
          rw [es2] at d2 HUM
          have HB3 : Hid (Below W1.heap.size W1 (wr.alloc (.cells #[.string x.name, .slice uo s1 uc, .slice vo s2 vc, .int .i64 x.body] 51))) := HB4.out.alloc HB4.out.size _
          clear es1 es2
          by_cases g1 : s1 ≤ 3
          case neg =>
            have g1' : (3 : Int) < (s1 : Int) := by omega
            have HF : Hid (fitsB n ms ps = false) := by show _ = _; rw [HV2.out, FitR.no EX.out (by rw [HUM.out]; simp [g1])]
            go_wp2
            go_ret
            exact ⟨by rw [HF.out]; rfl, HB.out.trans (HB3.out.mono HB.out.size)⟩
          have g1' : ¬ (3 : Int) < (s1 : Int) := by omega
          by_cases g2 : s2 ≤ 3
          case neg =>
            have g2' : (3 : Int) < (s2 : Int) := by omega
            have HF : Hid (fitsB n ms ps = false) := by show _ = _; rw [HV2.out, FitR.no EX.out (by rw [HUM.out]; simp [g2])]
            go_wp2
            go_ret
            exact ⟨by rw [HF.out]; rfl, HB.out.trans (HB3.out.mono HB.out.size)⟩
          have g2' : ¬ (3 : Int) < (s2 : Int) := by omega
          have HT : Hid (fitP x = true) := by show _ = _; rw [HUM.out]; simp [g1, g2]
          go_wp2
          go_roundw
          case rel => exact ⟨k + 1, by rw [EQ.out]; omega, by go_num, HB3.out, fun j y hj hy => by
            rcases Nat.lt_succ_iff_lt_or_eq.1 hj with h | h
            · exact HA4.out j y h hy
            · subst h; rw [EX.out] at hy; cases hy; exact HT.out⟩
          case measure => simp [intOf]; omega
        · have hltk' : ¬ (k : Int) < (q : Int) := by omega
          have HF : Hid (fitsB n ms ps = true) := by show _ = _; rw [HV2.out, FitR.all HA4.out (by rw [EQ.out]; omega)]
          go_wp2
          go_ret
          exact ⟨by rw [HF.out]; rfl, HB.out.trans (HB4.out.mono HB.out.size)⟩
end Go.Proofs.YtdfahpachbhglaaGreatDoor
