/-
  Walks: how deep all nodes are, by the specification.
-/
import Derived.Test.YtpdpmnkonkpheaaGreatTreeN
import Derived.Test.YtpdpmnkonkpheaaGreatImpJ
namespace Go.Proofs.YtpdpmnkonkpheaaGreat
open Go.RowKit

/-- Nodes whose lists and texts are no longer than may be. -/
def NsIn (ns : List Nd) : Prop := ∀ x ∈ ns, x.kids.length ≤ 1048576 ∧ x.name.size ≤ 1048576 ∧ x.more.size ≤ 1048576 ∧ x.into.size ≤ 1048576

def DeepR (w W1 : World) (ns : List Nd) (v iv : Value) (wr : World) : Prop :=
  ∃ k : Nat, k ≤ ns.length ∧ iv = .int .i64 k ∧ Hid (wr.ownsRow (w.heap.size + 1) 3 1 v k ((deepsTo ns k).map I64)) ∧ Hid (Below W1.heap.size W1 wr)
def DeepI (w2 : World) (out ks : List Int) (dv iv : Value) (wr : World) : Prop :=
  ∃ (j : Nat) (d : Int), j ≤ ks.length ∧ iv = .int .i64 j ∧ dv = .int .i64 d ∧ Hid (d = (ks.take j).foldl (kidDeep out) 1) ∧ 1 ≤ d ∧ d ≤ 11 ∧ wr = w2

/-- The end of a round: d is how deep the kids make it. -/
theorem deep_end {ns : List Nd} {k : Nat} {d : Int} (h : kidsDeep ns (deepsTo ns k) k = d) : cutDeep (deepsTo ns k) k (kidsDeep ns (deepsTo ns k) k) = if 10 < d ∨ (0 < k ∧ (deepsTo ns k).getD (k - 1) 0 = 0) then 0 else d := by
  rw [h, cutDeep]

set_option maxRecDepth 100000 in
set_option maxHeartbeats 2000000 in
theorem l05Deeps_any (nv mv pv : Value) (ns : List Nd) (w : World) (hN : NdsAt w nv ns) (hl : ns.length ≤ 1048576) (hin : NsIn ns) :
    Calls Tryz.prog 52 #[.agg #[nv, mv, pv]] w fun e w' => ∃ v, e = .returned v ∧ w'.ownsRow (w.heap.size + 1) 3 1 v ns.length ((deepsTo ns ns.length).map I64) ∧ Below w.heap.size w w' := by
  have hb1 : Below w.heap.size w (w.alloc (.cells #[nv, mv, pv] 33)) := (Below.refl _ _).alloc (Nat.le_refl _) _
  have HN := hide (hN.stays hb1)
  have HX := hide (Boxed.made w nv mv pv 33)
  have HB := hide hb1
  have HS : Hid ((w.alloc (.cells #[nv, mv, pv] 33)).heap.size = w.heap.size + 1) := by show _ = _; simp
  clear hb1
  have CN := fun k hk w (h : NdsAt w nv ns) => have := hin _ (List.getElem_mem hk); hide (specNodeOk_in nv mv pv ns k w h hk hl this.1 this.2.1 this.2.2.1 this.2.2.2)
  have hin2 := hide hin
  clear hin
  obtain ⟨ao, c, rfl, _⟩ := hN
  go_enter Tryz.func52, Tryz.ntmps52
  go_wp2
  obtain ⟨W1, hW⟩ : ∃ W1, w.alloc (.cells #[.slice ao ns.length c, mv, pv] 33) = W1 := ⟨_, rfl⟩
  rw [hW] at HN HX HB HS ⊢
  clear hW
  obtain ⟨n, en⟩ : ∃ n, ns.length = n := ⟨_, rfl⟩
  have EN := hide en
  rw [en] at HN HX hl ⊢
  clear en
  go_loopw [3, 4] (DeepR w W1 ns) (fun _ iv _ => n - (intOf iv).toNat)
  case atStart => exact ⟨0, by omega, rfl, by
    have := ownsRow_empty W1 (w.heap.size + 1) 3 (by rw [HS.out]; exact Nat.le_refl _)
    rw [HS.out] at this
    exact this, (Below.refl _ _).alloc (Nat.le_refl _) _⟩
  case round =>
    obtain ⟨k, hk, rfl, HO, HB2⟩ := hrel
    obtain ⟨c0, c1, c2, _⟩ := HX.out.stays HB2.out
    rw [EN.out] at hk
    by_cases hlt : k < n
    · have hlt' : (k : Int) < (n : Int) := by omega
      have hk0 : (0 : Int) ≤ (k : Int) := by omega
      have hkx : k < ns.length := by rw [EN.out]; exact hlt
      have HN2 := hide (HN.out.stays HB2.out)
      have C := CN k hkx
      have HKL := hide (hin2.out _ (List.getElem_mem hkx)).1
      have HG := hide (getD_at hkx)
      obtain ⟨x, ex⟩ : ∃ x, ns[k] = x := ⟨_, rfl⟩
      have EX := hide ex
      have HA : Hid (nodeB x (kinds ns k) = true → ∀ (i : Nat) (hi : i < x.kids.length), 0 ≤ x.kids[i] ∧ x.kids[i] < (k : Int)) := by
        show _ → _
        rw [← ex]; exact fun h => nodeB_ahead hkx h
      simp only [ex] at C HKL HG
      simp only [EN.out] at C
      obtain ⟨out, eo⟩ : ∃ out, deepsTo ns k = out := ⟨_, rfl⟩
      have EO := hide eo
      have hD : Hid (Deeps out) := by rw [← eo]; exact deepsTo_in ns k
      have HLO : Hid (out.length = k) := by rw [← eo]; exact deepsTo_len ns k
      rw [eo] at HO
      clear ex eo CN hin2
      cases hnb : nodeB x (kinds ns k) with
      | false =>
        have HE0 : Hid (kidsDeep ns (deepsTo ns k) k = 0) := by show _ = _; rw [kidsDeep, HG.out, hnb]; rfl
        have HE1 := hide (deep_end HE0.out)
        rw [hnb] at C
        clear hnb HA
        rcases k with _ | k
        · have HE : Hid (cutDeep (deepsTo ns 0) 0 (kidsDeep ns (deepsTo ns 0) 0) = 0) := by show _ = _; rw [HE1.out]; rfl
          (go_wp2_with (first
    | (go_at_call 84; refine (unhide (C _ HN2.out)).mono ?_; rintro e w2 ⟨rfl, hb2⟩; have HB3 := hide (HB2.out.trans (hb2.mono HB2.out.size)); have HO := hide (ownsInts_stays HO.out hb2); have hwz : w.heap.size + 1 ≤ w2.heap.size := Nat.le_trans (Nat.le_of_eq HS.out.symm) HB3.out.size; (try have hz := (hb2.cell hg2).trans hz0); clear hb2)
    | (at_builtin; refine wpList_app1 rfl (.tmp 71) (.tmp 73) 41 rfl (w.heap.size + 1) 3 (.int .i64 0) 8 Tryz.underlying41 Tryz.infoInt rfl _ _ _ _ rfl HO.out rfl rfl (by unfold maxLen; omega) (by omega) hwz ?_)))
          (
  intro v' w4 hown4 hb4;
  have R : DeepR w W1 ns v' (.int .i64 (((0 : Nat) : Int) + 1)) w4 := ⟨0 + 1, (by rw [EN.out]; omega), rfl, hide (by rw [deepsTo, HE.out, EO.out]; simpa using hown4), HB3.out.trans (by rw [HS.out]; exact hb4)⟩;
  clear hown4 hb4;
  go_wp2;
  go_roundw)
          case rel => exact R
          case measure => simp [intOf]; omega
        · have HE : Hid (cutDeep (deepsTo ns (k + 1)) (k + 1) (kidsDeep ns (deepsTo ns (k + 1)) (k + 1)) = 0) := by show _ = _; rw [HE1.out]; split <;> rfl
          obtain ⟨g, cap, rfl, hg1, hg2, hcell⟩ := ownsInts_form HO.out (Nat.succ_pos k)
          have hz0 := hcell k (Nat.lt_succ_self k)
          obtain ⟨z, ez⟩ : ∃ z, out.getD k 0 = z := ⟨_, rfl⟩
          rw [ez] at hz0
          clear ez hcell
          by_cases hz1 : z = 0
          · subst hz1
            (go_wp2_with (first
    | (go_at_call 84; refine (unhide (C _ HN2.out)).mono ?_; rintro e w2 ⟨rfl, hb2⟩; have HB3 := hide (HB2.out.trans (hb2.mono HB2.out.size)); have HO := hide (ownsInts_stays HO.out hb2); have hwz : w.heap.size + 1 ≤ w2.heap.size := Nat.le_trans (Nat.le_of_eq HS.out.symm) HB3.out.size; (try have hz := (hb2.cell hg2).trans hz0); clear hb2)
    | (at_builtin; refine wpList_app1 rfl (.tmp 71) (.tmp 73) 41 rfl (w.heap.size + 1) 3 (.int .i64 0) 8 Tryz.underlying41 Tryz.infoInt rfl _ _ _ _ rfl HO.out rfl rfl (by unfold maxLen; omega) (by omega) hwz ?_)))
            (
  intro v' w4 hown4 hb4;
  have R : DeepR w W1 ns v' (.int .i64 ((((k + 1) : Nat) : Int) + 1)) w4 := ⟨(k + 1) + 1, (by rw [EN.out]; omega), rfl, hide (by rw [deepsTo, HE.out, EO.out]; simpa using hown4), HB3.out.trans (by rw [HS.out]; exact hb4)⟩;
  clear hown4 hb4;
  go_wp2;
  go_roundw)
            case rel => exact R
            case measure => simp [intOf]; omega
          · (go_wp2_with (first
    | (go_at_call 84; refine (unhide (C _ HN2.out)).mono ?_; rintro e w2 ⟨rfl, hb2⟩; have HB3 := hide (HB2.out.trans (hb2.mono HB2.out.size)); have HO := hide (ownsInts_stays HO.out hb2); have hwz : w.heap.size + 1 ≤ w2.heap.size := Nat.le_trans (Nat.le_of_eq HS.out.symm) HB3.out.size; (try have hz := (hb2.cell hg2).trans hz0); clear hb2)
    | (at_builtin; refine wpList_app1 rfl (.tmp 71) (.tmp 73) 41 rfl (w.heap.size + 1) 3 (.int .i64 0) 8 Tryz.underlying41 Tryz.infoInt rfl _ _ _ _ rfl HO.out rfl rfl (by unfold maxLen; omega) (by omega) hwz ?_)))
            (
  intro v' w4 hown4 hb4;
  have R : DeepR w W1 ns v' (.int .i64 ((((k + 1) : Nat) : Int) + 1)) w4 := ⟨(k + 1) + 1, (by rw [EN.out]; omega), rfl, hide (by rw [deepsTo, HE.out, EO.out]; simpa using hown4), HB3.out.trans (by rw [HS.out]; exact hb4)⟩;
  clear hown4 hb4;
  go_wp2;
  go_roundw)
            case rel => exact R
            case measure => simp [intOf]; omega
      | true =>
        have HA := hide (HA.out hnb)
        have HK : Hid (kidsDeep ns (deepsTo ns k) k = x.kids.foldl (kidDeep out) 1) := by show _ = _; rw [kidsDeep, HG.out, hnb, EO.out]; rfl
        rw [hnb] at C
        clear hnb
        obtain ⟨m, em⟩ : ∃ m, x.kids.length = m := ⟨_, rfl⟩
        have EM := hide em
        rw [em] at HKL
        have hm : m ≤ 1048576 := HKL.out
        clear em
        go_wp2_with (go_at_call 84; refine (unhide (C _ HN2.out)).mono ?_; rintro e w2 ⟨rfl, hb2⟩; have HB3 := hide (HB2.out.trans (hb2.mono HB2.out.size)); have HO := hide (ownsInts_stays HO.out hb2); have hwz : w.heap.size + 1 ≤ w2.heap.size := Nat.le_trans (Nat.le_of_eq HS.out.symm) HB3.out.size; have HN3 := hide (HN2.out.stays hb2); obtain ⟨f0, f1, f2, _⟩ := HX.out.stays HB3.out; clear hb2)
        clear c0 c1 c2
        go_loopw [5, 6] (DeepI w2 out x.kids) (fun _ iv _ => m - (intOf iv).toNat)
        case atStart => exact ⟨0, 1, by omega, rfl, rfl, rfl, by omega, by omega, rfl⟩
        case round =>
          obtain ⟨j, d, hj, rfl, rfl, HD, hd1, hd2, rfl⟩ := hrel
          rw [EM.out] at hj
          obtain ⟨a, cc, p, kv, e5, hpa, hpb, hnode⟩ := HN3.out.node k hkx
          injection e5 with e6 e7 e8
          subst e6
          have d5 := hnode.c5
          have hkr := hnode.kids
          rw [EX.out] at hkr
          obtain ⟨bo, cb, rfl, hkc⟩ := hkr
          rw [EM.out] at d5
          clear hnode e7 e8
          by_cases hlt2 : j < m
          · have hlt2' : (j : Int) < (m : Int) := by omega
            have hj0 : (0 : Int) ≤ (j : Int) := by omega
            have hjx : j < x.kids.length := by rw [EM.out]; exact hlt2
            obtain ⟨b, rfl, hbb, hy⟩ := hkc j hjx
            obtain ⟨hy0, hy1⟩ := HA.out j hjx
            have EJ : Hid ((x.kids.take (j + 1)).foldl (kidDeep out) 1 = kidDeep out d x.kids[j]) := by
              show _ = _
              rw [List.take_add_one, List.getElem?_eq_getElem hjx, List.foldl_append, HD.out]
              rfl
            obtain ⟨y, ey⟩ : ∃ y, x.kids[j] = y := ⟨_, rfl⟩
            rw [ey] at hy hy0 hy1 EJ
            clear ey hkc
            obtain ⟨t, et⟩ : ∃ t : Nat, y = (t : Int) := ⟨y.toNat, by omega⟩
            subst et
            obtain ⟨g, cap, rfl, hg1, hg2, hcell⟩ := ownsInts_form HO.out (by omega)
            have hz := hcell t (by omega)
            have hzi := hD.out t
            have EK : Hid (kidDeep out d (t : Int) = if d < out.getD t 0 + 1 then out.getD t 0 + 1 else d) := by show _ = _; rw [kidDeep]; rfl
            obtain ⟨z, ez⟩ : ∃ z, out.getD t 0 = z := ⟨_, rfl⟩
            rw [ez] at hz hzi EK
            obtain ⟨hz0, hz1⟩ := hzi
            clear ez hcell
            by_cases hq : d < z + 1
            · have EQ : Hid (z + 1 = (x.kids.take (j + 1)).foldl (kidDeep out) 1) := by show _ = _; rw [EJ.out, EK.out, if_pos hq]
              go_wp2
              go_roundw
              case rel => exact ⟨j + 1, z + 1, by rw [EM.out]; omega, by go_num, by go_num, EQ.out, by omega, by omega, rfl⟩
              case measure => simp [intOf]; omega
            · have EQ : Hid (d = (x.kids.take (j + 1)).foldl (kidDeep out) 1) := by show _ = _; rw [EJ.out, EK.out, if_neg hq]
              go_wp2
              go_roundw
              case rel => exact ⟨j + 1, d, by rw [EM.out]; omega, by go_num, rfl, EQ.out, by omega, by omega, rfl⟩
              case measure => simp [intOf]; omega
          · have hlt2' : ¬ (j : Int) < (m : Int) := by omega
            have HE0 : Hid (kidsDeep ns (deepsTo ns k) k = d) := by show _ = _; rw [HK.out, HD.out, List.take_of_length_le (by rw [EM.out]; omega)]
            have HE1 := hide (deep_end HE0.out)
            clear hkc HA
            by_cases hq : 10 < d
            · have HE : Hid (cutDeep (deepsTo ns k) k (kidsDeep ns (deepsTo ns k) k) = 0) := by show _ = _; rw [HE1.out, if_pos (.inl hq)]
              (go_wp2_with (first
    | (go_at_call 84; refine (unhide (C _ HN2.out)).mono ?_; rintro e w2 ⟨rfl, hb2⟩; have HB3 := hide (HB2.out.trans (hb2.mono HB2.out.size)); have HO := hide (ownsInts_stays HO.out hb2); have hwz : w.heap.size + 1 ≤ w2.heap.size := Nat.le_trans (Nat.le_of_eq HS.out.symm) HB3.out.size; (try have hz := (hb2.cell hg2).trans hz0); clear hb2)
    | (at_builtin; refine wpList_app1 rfl (.tmp 71) (.tmp 73) 41 rfl (w.heap.size + 1) 3 (.int .i64 0) 8 Tryz.underlying41 Tryz.infoInt rfl _ _ _ _ rfl HO.out rfl rfl (by unfold maxLen; omega) (by omega) hwz ?_)))
              (
  intro v' w4 hown4 hb4;
  have R : DeepR w W1 ns v' (.int .i64 (((k : Nat) : Int) + 1)) w4 := ⟨k + 1, (by rw [EN.out]; omega), rfl, hide (by rw [deepsTo, HE.out, EO.out]; simpa using hown4), HB3.out.trans (by rw [HS.out]; exact hb4)⟩;
  clear hown4 hb4;
  go_wp2;
  go_roundw)
              case rel => exact R
              case measure => simp [intOf]; omega
            · rcases k with _ | k
              · have HE : Hid (cutDeep (deepsTo ns 0) 0 (kidsDeep ns (deepsTo ns 0) 0) = d) := by show _ = _; rw [HE1.out, if_neg (by omega)]
                (go_wp2_with (first
    | (go_at_call 84; refine (unhide (C _ HN2.out)).mono ?_; rintro e w2 ⟨rfl, hb2⟩; have HB3 := hide (HB2.out.trans (hb2.mono HB2.out.size)); have HO := hide (ownsInts_stays HO.out hb2); have hwz : w.heap.size + 1 ≤ w2.heap.size := Nat.le_trans (Nat.le_of_eq HS.out.symm) HB3.out.size; (try have hz := (hb2.cell hg2).trans hz0); clear hb2)
    | (at_builtin; refine wpList_app1 rfl (.tmp 71) (.tmp 73) 41 rfl (w.heap.size + 1) 3 (.int .i64 0) 8 Tryz.underlying41 Tryz.infoInt rfl _ _ _ _ rfl HO.out rfl rfl (by unfold maxLen; omega) (by omega) hwz ?_)))
                (
  intro v' w4 hown4 hb4;
  have R : DeepR w W1 ns v' (.int .i64 (((0 : Nat) : Int) + 1)) w4 := ⟨0 + 1, (by rw [EN.out]; omega), rfl, hide (by rw [deepsTo, HE.out, EO.out]; simpa using hown4), HB3.out.trans (by rw [HS.out]; exact hb4)⟩;
  clear hown4 hb4;
  go_wp2;
  go_roundw)
                case rel => exact R
                case measure => simp [intOf]; omega
              · obtain ⟨g, cap, rfl, hg1, hg2, hcell⟩ := ownsInts_form HO.out (Nat.succ_pos k)
                have hz0 := hcell k (Nat.lt_succ_self k)
                rw [EO.out] at HE1
                have HE1 : Hid (_ = if 10 < d ∨ (0 < k + 1 ∧ out.getD k 0 = 0) then 0 else d) := HE1
                obtain ⟨z, ez⟩ : ∃ z, out.getD k 0 = z := ⟨_, rfl⟩
                rw [ez] at hz0 HE1
                clear ez hcell
                by_cases hz1 : z = 0
                · have HE : Hid (cutDeep (deepsTo ns (k + 1)) (k + 1) (kidsDeep ns (deepsTo ns (k + 1)) (k + 1)) = 0) := by show _ = _; rw [EO.out, HE1.out, if_pos (.inr ⟨by omega, hz1⟩)]
                  subst hz1
                  (go_wp2_with (first
    | (go_at_call 84; refine (unhide (C _ HN2.out)).mono ?_; rintro e w2 ⟨rfl, hb2⟩; have HB3 := hide (HB2.out.trans (hb2.mono HB2.out.size)); have HO := hide (ownsInts_stays HO.out hb2); have hwz : w.heap.size + 1 ≤ w2.heap.size := Nat.le_trans (Nat.le_of_eq HS.out.symm) HB3.out.size; (try have hz := (hb2.cell hg2).trans hz0); clear hb2)
    | (at_builtin; refine wpList_app1 rfl (.tmp 71) (.tmp 73) 41 rfl (w.heap.size + 1) 3 (.int .i64 0) 8 Tryz.underlying41 Tryz.infoInt rfl _ _ _ _ rfl HO.out rfl rfl (by unfold maxLen; omega) (by omega) hwz ?_)))
                  (
  intro v' w4 hown4 hb4;
  have R : DeepR w W1 ns v' (.int .i64 ((((k + 1) : Nat) : Int) + 1)) w4 := ⟨(k + 1) + 1, (by rw [EN.out]; omega), rfl, hide (by rw [deepsTo, HE.out, EO.out]; simpa using hown4), HB3.out.trans (by rw [HS.out]; exact hb4)⟩;
  clear hown4 hb4;
  go_wp2;
  go_roundw)
                  case rel => exact R
                  case measure => simp [intOf]; omega
                · have HE : Hid (cutDeep (deepsTo ns (k + 1)) (k + 1) (kidsDeep ns (deepsTo ns (k + 1)) (k + 1)) = d) := by show _ = _; rw [EO.out, HE1.out, if_neg (by omega)]
                  (go_wp2_with (first
    | (go_at_call 84; refine (unhide (C _ HN2.out)).mono ?_; rintro e w2 ⟨rfl, hb2⟩; have HB3 := hide (HB2.out.trans (hb2.mono HB2.out.size)); have HO := hide (ownsInts_stays HO.out hb2); have hwz : w.heap.size + 1 ≤ w2.heap.size := Nat.le_trans (Nat.le_of_eq HS.out.symm) HB3.out.size; (try have hz := (hb2.cell hg2).trans hz0); clear hb2)
    | (at_builtin; refine wpList_app1 rfl (.tmp 71) (.tmp 73) 41 rfl (w.heap.size + 1) 3 (.int .i64 0) 8 Tryz.underlying41 Tryz.infoInt rfl _ _ _ _ rfl HO.out rfl rfl (by unfold maxLen; omega) (by omega) hwz ?_)))
                  (
  intro v' w4 hown4 hb4;
  have R : DeepR w W1 ns v' (.int .i64 ((((k + 1) : Nat) : Int) + 1)) w4 := ⟨(k + 1) + 1, (by rw [EN.out]; omega), rfl, hide (by rw [deepsTo, HE.out, EO.out]; simpa using hown4), HB3.out.trans (by rw [HS.out]; exact hb4)⟩;
  clear hown4 hb4;
  go_wp2;
  go_roundw)
                  case rel => exact R
                  case measure => simp [intOf]; omega
    · have hlt' : ¬ (k : Int) < (n : Int) := by omega
      have ei : k = n := by omega
      subst ei
      go_wp2
      go_ret
      exact ⟨_, rfl, by rw [EN.out]; exact HO.out, HB.out.trans (HB2.out.mono HB.out.size)⟩
end Go.Proofs.YtpdpmnkonkpheaaGreat

namespace Go.Proofs.YtpdpmnkonkpheaaGreat
open Go.RowKit

/-- Is there a right node at a place? -/
def nodeAt (ns : List Nd) (k : Int) : Bool := inZ 0 ((ns.length : Int) - 1) k && nodeB (ns.getD k.toNat default) (kinds ns k.toNat)

set_option maxHeartbeats 1000000 in
theorem specNodeOk_any (nv mv pv : Value) (ns : List Nd) (k : Int) (w : World) (hN : NdsAt w nv ns) (hl : ns.length ≤ 1048576) (hin : NsIn ns) :
    Calls Tryz.prog 84 #[.agg #[nv, mv, pv], .int .i64 k] w fun e w' => e = .returned (.bool (nodeAt ns k)) ∧ Below w.heap.size w w' := by
  cases h : inZ 0 ((ns.length : Int) - 1) k with
  | true =>
    obtain ⟨h0, h1⟩ := inZ_yes.1 h
    obtain ⟨j, rfl⟩ : ∃ j : Nat, k = (j : Int) := ⟨k.toNat, by omega⟩
    have hj : j < ns.length := by omega
    have hi := hin _ (List.getElem_mem hj)
    have e : nodeAt ns (j : Int) = nodeB ns[j] (kinds ns j) := by
      rw [nodeAt, h, Int.toNat_natCast, getD_at hj]
      rfl
    rw [e]
    exact specNodeOk_in nv mv pv ns j w hN hj hl hi.1 hi.2.1 hi.2.2.1 hi.2.2.2
  | false =>
    have HF : Hid (nodeAt ns k = false) := by show _ = _; rw [nodeAt, h]; rfl
    have C := fun w => hide (l01In_gen k 0 ((ns.length : Int) - 1) w)
    rw [h] at C
    have HB : Hid (Below w.heap.size w (w.alloc (.cells #[nv, mv, pv] 33))) := (Below.refl _ _).alloc (Nat.le_refl _) _
    obtain ⟨ao, c, rfl, _⟩ := hN
    clear h hin
    go_enter Tryz.func84, Tryz.ntmps84
    go_wp2_with (go_at_call 31; refine (unhide (C _)).mono ?_; rintro e w1 ⟨rfl, rfl⟩)
    go_ret
    exact ⟨by rw [HF.out]; rfl, HB.out⟩
end Go.Proofs.YtpdpmnkonkpheaaGreat

namespace Go.Proofs.YtpdpmnkonkpheaaGreat
open Go.RowKit

/-- What holds of the world while a node is looked at. -/
structure NB (w : World) (nv mv pv : Value) (ns : List Nd) (B : Nat) (x : Nd) (kv : Value) (z : World) : Prop where
  b0 : Box z w.heap.size #[nv, mv, pv] 33
  b1 : Box z B #[.int .i64 x.kind, .int .i64 x.num, .string x.name, .string x.more, .string x.into, kv] 73
  bel : Below w.heap.size w z
  nds : NdsAt z nv ns
  kids : IntsAt z kv x.kids
theorem NB.stays {w : World} {nv mv pv : Value} {ns : List Nd} {B : Nat} {x : Nd} {kv : Value} {z z' : World} (h : NB w nv mv pv ns B x kv z) (hb : Below z.heap.size z z') : NB w nv mv pv ns B x kv z' :=
  ⟨h.b0.stays hb, h.b1.stays hb, h.bel.trans (hb.mono h.bel.size), h.nds.stays hb, h.kids.stays hb⟩
abbrev NBS (w : World) (nv mv pv : Value) (ns : List Nd) (B : Nat) (x : Nd) (kv : Value) (z : World) : Prop :=
  z.cell? ⟨B, 0, none⟩ = some (.int .i64 x.kind) ∧ z.cell? ⟨B, 1, none⟩ = some (.int .i64 x.num) ∧ z.cell? ⟨B, 2, none⟩ = some (.string x.name) ∧ z.cell? ⟨B, 3, none⟩ = some (.string x.more) ∧ z.cell? ⟨B, 4, none⟩ = some (.string x.into) ∧ z.cell? ⟨B, 5, none⟩ = some kv
    ∧ Hid (NB w nv mv pv ns B x kv z)
theorem NB.spread {w : World} {nv mv pv : Value} {ns : List Nd} {B : Nat} {x : Nd} {kv : Value} {z : World} (h : NB w nv mv pv ns B x kv z) : NBS w nv mv pv ns B x kv z :=
  ⟨Lib.cell_of_heap h.b1 0, Lib.cell_of_heap h.b1 1, Lib.cell_of_heap h.b1 2, Lib.cell_of_heap h.b1 3, Lib.cell_of_heap h.b1 4, Lib.cell_of_heap h.b1 5, h⟩
theorem NBS.nb {w : World} {nv mv pv : Value} {ns : List Nd} {B : Nat} {x : Nd} {kv : Value} {z : World} (h : NBS w nv mv pv ns B x kv z) : NB w nv mv pv ns B x kv z := h.2.2.2.2.2.2.out

/-- Is a node right, by the program? (y: the node that comes back from its type; rb: what stands in it is right.) -/
def progB (x y : Nd) (k : Int) (rb : Bool) : Bool := sameB x y && aheadB x.kids k && rb

set_option maxRecDepth 100000 in
set_option maxHeartbeats 4000000 in
theorem nodeOk_calc (nv mv pv : Value) (ns : List Nd) (k : Nat) (w : World) (hN : NdsAt w nv ns) (hR : NdsRoom w nv ns.length) (hk : k < ns.length) (hl : ns.length ≤ 1048576) (nu : Int) (nm mo it : ByteArray) (ks : List Int) (hkl : ks.length ≤ 1048576) (_hs1 : nm.size ≤ 1048576) (_hs2 : mo.size ≤ 1048576) (_hs3 : it.size ≤ 1048576) (hx : ns[k] = ⟨3, nu, nm, mo, it, ks⟩) :
    Calls Tryz.prog 86 #[.agg #[nv, mv, pv], .int .i64 (k : Int)] w fun e w' => e = .returned (.bool (progB ⟨3, nu, nm, mo, it, ks⟩ ⟨3, nu, ByteArray.empty, ByteArray.empty, ByteArray.empty, [(ks[0]?.getD (-1)), (ks[1]?.getD (-1))]⟩ k ((decide (1 ≤ nu) && decide (nu ≤ 9)) && (standQ ns 1 (ks[0]?.getD (-1)) && standQ ns 1 (ks[1]?.getD (-1)))))) ∧ Below w.heap.size w w' := by
  have hb1 : Below w.heap.size w (w.alloc (.cells #[nv, mv, pv] 33)) := (Below.refl _ _).alloc (Nat.le_refl _) _
  have CH := fun w h => hide (has_any nv mv pv ns (k : Int) w h)
  have e1 : inZ 0 ((ns.length : Int) - 1) (k : Int) = true := inZ_yes.2 (by omega)
  rw [e1] at CH
  have HN := hide (hN.stays hb1)
  have HR := hide (hR.stays hb1)
  have HP : Hid (Box (w.alloc (.cells #[nv, mv, pv] 33)) w.heap.size #[nv, mv, pv] 33) := Box.made w _ _
  have HB := hide hb1
  have HX := hide hx
  clear hb1 e1 hR hx
  obtain ⟨ao, c, rfl, _⟩ := hN
  have hi0 : (0 : Int) ≤ (k : Int) := by omega
  have hi1 : (k : Int) < (ns.length : Int) := by omega
  go_enter Tryz.func86, Tryz.ntmps86
  go_wp2_with fail
  refine (unhide (CH _ HN.out)).mono ?_
  rintro e w1 ⟨rfl, hb2⟩
  have HB1 := hide (HB.out.trans (hb2.mono HB.out.size))
  have HN1 := hide (HN.out.stays hb2)
  have HR1 := hide (HR.out.stays hb2)
  have HP1 := hide (HP.out.stays hb2)
  have c0 := Lib.cell_of_heap HP1.out 0
  have c1 := Lib.cell_of_heap HP1.out 1
  have c2 := Lib.cell_of_heap HP1.out 2
  clear HB HN HR HP CH
  simp at c0 c1 c2
  obtain ⟨a', c', p, kv, e5, hpa, hpb, hnode⟩ := HN1.out.node k hk
  injection e5 with e6 e7 e8
  subst e6
  have hrm : Room kv := by
    obtain ⟨ao2, c2, e2, _, h2⟩ := HR1.out
    injection e2 with e3 e4 e5
    obtain ⟨a2, kv2, e6, _, h3, h4⟩ := h2 k hk
    rw [← e3] at e6
    cases e6
    rw [hpa, hnode.c5] at h3
    cases h3
    exact h4
  rw [HX.out] at hnode
  obtain ⟨d0, d1, d2, d3, d4, d5, hkids⟩ := hnode
  dsimp only at d0 d1 d2 d3 d4 d5 hkids
  have HKI := hide hkids
  obtain ⟨ko, kc, rfl, _⟩ := hkids
  have HRM := hide hrm
  clear e7 e8 hb2 hrm
  go_wp2_with fail
  have HNB : Hid (NB w (.slice (some a') ns.length c) mv pv ns w1.heap.size ⟨3, nu, nm, mo, it, ks⟩ (.slice ko ks.length kc) (w1.alloc (.cells #[.int .i64 3, .int .i64 nu, .string nm, .string mo, .string it, .slice ko ks.length kc] 73))) := by
    have hb : Below w1.heap.size w1 (w1.alloc (.cells #[.int .i64 3, .int .i64 nu, .string nm, .string mo, .string it, .slice ko ks.length kc] 73)) := (Below.refl _ _).alloc (Nat.le_refl _) _
    exact ⟨HP1.out.stays hb, Box.made _ _ _, HB1.out.trans (hb.mono HB1.out.size), HN1.out.stays hb, HKI.out.stays hb⟩
  refine (typed_any 3 nu nm mo it (.slice ko ks.length kc) ks _ HNB.out.kids).mono ?_
  rintro e w2 ⟨rfl, hb2⟩
  have HNB2 := hide (HNB.out.stays hb2)
  clear HNB
  clear hb2 c0 c1 c2 d0 d1 d2 d3 d4 d5 HN1 HR1 HP1 HB1 HKI
  have et : typedV 3 nu nm mo it (.slice ko ks.length kc) ks = .iface 150 (.agg #[.int .i64 nu, .int .i64 (ks[0]?.getD (-1)), .int .i64 (ks[1]?.getD (-1))]) := rfl
  rw [et]
  clear et
  have CN := fun w => hide (calcNode_node nu (ks[0]?.getD (-1)) (ks[1]?.getD (-1)) w)
  have CR := fun w h => hide (right_calc (.slice (some a') ns.length c) mv pv ns w h hl nu (ks[0]?.getD (-1)) (ks[1]?.getD (-1)))
  have CS := fun w kv2 h1 h2 => hide (same_any ⟨3, nu, nm, mo, it, ks⟩ ⟨3, nu, ByteArray.empty, ByteArray.empty, ByteArray.empty, [(ks[0]?.getD (-1)), (ks[1]?.getD (-1))]⟩ (.slice ko ks.length kc) kv2 w h1 h2 hkl (by simp))
  have CA := fun w h => hide (kidsAhead_any 3 nu nm mo it (.slice ko ks.length kc) ks (k : Int) w h HRM.out)
  obtain ⟨sb, esb⟩ : ∃ sb, sameB ⟨3, nu, nm, mo, it, ks⟩ ⟨3, nu, ByteArray.empty, ByteArray.empty, ByteArray.empty, [(ks[0]?.getD (-1)), (ks[1]?.getD (-1))]⟩ = sb := ⟨_, rfl⟩
  obtain ⟨ab, eab⟩ : ∃ ab, aheadB ks (k : Int) = ab := ⟨_, rfl⟩
  have HF : Hid (progB ⟨3, nu, nm, mo, it, ks⟩ ⟨3, nu, ByteArray.empty, ByteArray.empty, ByteArray.empty, [(ks[0]?.getD (-1)), (ks[1]?.getD (-1))]⟩ (k : Int) ((decide (1 ≤ nu) && decide (nu ≤ 9)) && (standQ ns 1 (ks[0]?.getD (-1)) && standQ ns 1 (ks[1]?.getD (-1)))) = (sb && ab && ((decide (1 ≤ nu) && decide (nu ≤ 9)) && (standQ ns 1 (ks[0]?.getD (-1)) && standQ ns 1 (ks[1]?.getD (-1)))))) := by show _ = _; rw [progB, esb, eab]
  obtain ⟨rb, erb⟩ : ∃ rb, ((decide (1 ≤ nu) && decide (nu ≤ 9)) && (standQ ns 1 (ks[0]?.getD (-1)) && standQ ns 1 (ks[1]?.getD (-1)))) = rb := ⟨_, rfl⟩
  simp only [esb] at CS
  simp only [eab] at CA
  simp only [erb] at CR
  have HF2 : Hid (progB ⟨3, nu, nm, mo, it, ks⟩ ⟨3, nu, ByteArray.empty, ByteArray.empty, ByteArray.empty, [(ks[0]?.getD (-1)), (ks[1]?.getD (-1))]⟩ (k : Int) ((decide (1 ≤ nu) && decide (nu ≤ 9)) && (standQ ns 1 (ks[0]?.getD (-1)) && standQ ns 1 (ks[1]?.getD (-1)))) = (sb && ab && rb)) := by rw [← erb]; exact HF.out
  clear HF
  clear esb eab
  (try dsimp only at CS)
  obtain ⟨g0, g1, g2, g3, g4, g5, hh⟩ := HNB2.out.spread
  (try dsimp only at g0 g1 g2 g3 g4 g5)
  have KP : Hid (∀ z z' : World, (z.cell? ⟨w1.heap.size, 0, none⟩ = some (.int .i64 3) ∧ z.cell? ⟨w1.heap.size, 1, none⟩ = some (.int .i64 nu) ∧ z.cell? ⟨w1.heap.size, 2, none⟩ = some (.string nm) ∧ z.cell? ⟨w1.heap.size, 3, none⟩ = some (.string mo) ∧ z.cell? ⟨w1.heap.size, 4, none⟩ = some (.string it) ∧ z.cell? ⟨w1.heap.size, 5, none⟩ = some (.slice ko ks.length kc) ∧ Hid (NB w (.slice (some a') ns.length c) mv pv ns w1.heap.size ⟨3, nu, nm, mo, it, ks⟩ (.slice ko ks.length kc) z)) → Below z.heap.size z z' → (z'.cell? ⟨w1.heap.size, 0, none⟩ = some (.int .i64 3) ∧ z'.cell? ⟨w1.heap.size, 1, none⟩ = some (.int .i64 nu) ∧ z'.cell? ⟨w1.heap.size, 2, none⟩ = some (.string nm) ∧ z'.cell? ⟨w1.heap.size, 3, none⟩ = some (.string mo) ∧ z'.cell? ⟨w1.heap.size, 4, none⟩ = some (.string it) ∧ z'.cell? ⟨w1.heap.size, 5, none⟩ = some (.slice ko ks.length kc) ∧ Hid (NB w (.slice (some a') ns.length c) mv pv ns w1.heap.size ⟨3, nu, nm, mo, it, ks⟩ (.slice ko ks.length kc) z'))) := fun z z' h hb => (h.2.2.2.2.2.2.out.stays hb).spread
  have KK : Hid (∀ z : World, (z.cell? ⟨w1.heap.size, 0, none⟩ = some (.int .i64 3) ∧ z.cell? ⟨w1.heap.size, 1, none⟩ = some (.int .i64 nu) ∧ z.cell? ⟨w1.heap.size, 2, none⟩ = some (.string nm) ∧ z.cell? ⟨w1.heap.size, 3, none⟩ = some (.string mo) ∧ z.cell? ⟨w1.heap.size, 4, none⟩ = some (.string it) ∧ z.cell? ⟨w1.heap.size, 5, none⟩ = some (.slice ko ks.length kc) ∧ Hid (NB w (.slice (some a') ns.length c) mv pv ns w1.heap.size ⟨3, nu, nm, mo, it, ks⟩ (.slice ko ks.length kc) z)) → IntsAt z (.slice ko ks.length kc) ks) := fun z h => h.2.2.2.2.2.2.out.kids
  have KD : Hid (∀ z : World, (z.cell? ⟨w1.heap.size, 0, none⟩ = some (.int .i64 3) ∧ z.cell? ⟨w1.heap.size, 1, none⟩ = some (.int .i64 nu) ∧ z.cell? ⟨w1.heap.size, 2, none⟩ = some (.string nm) ∧ z.cell? ⟨w1.heap.size, 3, none⟩ = some (.string mo) ∧ z.cell? ⟨w1.heap.size, 4, none⟩ = some (.string it) ∧ z.cell? ⟨w1.heap.size, 5, none⟩ = some (.slice ko ks.length kc) ∧ Hid (NB w (.slice (some a') ns.length c) mv pv ns w1.heap.size ⟨3, nu, nm, mo, it, ks⟩ (.slice ko ks.length kc) z)) → NB w (.slice (some a') ns.length c) mv pv ns w1.heap.size ⟨3, nu, nm, mo, it, ks⟩ (.slice ko ks.length kc) z) := fun z h => h.2.2.2.2.2.2.out
  have K0 : Hid (w2.drew.cell? ⟨w1.heap.size, 0, none⟩ = some (.int .i64 3) ∧ w2.drew.cell? ⟨w1.heap.size, 1, none⟩ = some (.int .i64 nu) ∧ w2.drew.cell? ⟨w1.heap.size, 2, none⟩ = some (.string nm) ∧ w2.drew.cell? ⟨w1.heap.size, 3, none⟩ = some (.string mo) ∧ w2.drew.cell? ⟨w1.heap.size, 4, none⟩ = some (.string it) ∧ w2.drew.cell? ⟨w1.heap.size, 5, none⟩ = some (.slice ko ks.length kc) ∧ Hid (NB w (.slice (some a') ns.length c) mv pv ns w1.heap.size ⟨3, nu, nm, mo, it, ks⟩ (.slice ko ks.length kc) w2.drew)) := (HNB2.out.stays (Below.refl _ _).drew).spread
  clear erb
  cases sb with
  | false =>
    go_wp2_with fail
    go_region_held3 (fun z => z.cell? ⟨w1.heap.size, 0, none⟩ = some (.int .i64 3) ∧ z.cell? ⟨w1.heap.size, 1, none⟩ = some (.int .i64 nu) ∧ z.cell? ⟨w1.heap.size, 2, none⟩ = some (.string nm) ∧ z.cell? ⟨w1.heap.size, 3, none⟩ = some (.string mo) ∧ z.cell? ⟨w1.heap.size, 4, none⟩ = some (.string it) ∧ z.cell? ⟨w1.heap.size, 5, none⟩ = some (.slice ko ks.length kc) ∧ Hid (NB w (.slice (some a') ns.length c) mv pv ns w1.heap.size ⟨3, nu, nm, mo, it, ks⟩ (.slice ko ks.length kc) z)) (first | exact K0.out | exact KP.out _ _ (by assumption) hb4)
      ((first
        | (go_at_call 147; refine (unhide (CN _)).mono ?_; rintro e w4 ⟨v4, rfl, hv4, hb4⟩; obtain ⟨kv4, rfl, hk4⟩ := hv4)
        | (go_at_call 106; refine (unhide (CS _ _ (KK.out _ (by assumption)) hk4)).mono ?_; rintro e w4 ⟨rfl, hb4⟩)))
    all_goals (have D := hide (KD.out _ (by assumption)))
    all_goals go_wp2
    all_goals go_ret
    all_goals exact ⟨by rw [HF2.out]; rfl, D.out.bel⟩
  | true =>
    go_wp2_with fail
    go_region_held3 (fun z => z.cell? ⟨w1.heap.size, 0, none⟩ = some (.int .i64 3) ∧ z.cell? ⟨w1.heap.size, 1, none⟩ = some (.int .i64 nu) ∧ z.cell? ⟨w1.heap.size, 2, none⟩ = some (.string nm) ∧ z.cell? ⟨w1.heap.size, 3, none⟩ = some (.string mo) ∧ z.cell? ⟨w1.heap.size, 4, none⟩ = some (.string it) ∧ z.cell? ⟨w1.heap.size, 5, none⟩ = some (.slice ko ks.length kc) ∧ Hid (NB w (.slice (some a') ns.length c) mv pv ns w1.heap.size ⟨3, nu, nm, mo, it, ks⟩ (.slice ko ks.length kc) z)) (first | exact K0.out | exact KP.out _ _ (by assumption) hb4)
      ((first
        | (go_at_call 147; refine (unhide (CN _)).mono ?_; rintro e w4 ⟨v4, rfl, hv4, hb4⟩; obtain ⟨kv4, rfl, hk4⟩ := hv4)
        | (go_at_call 106; refine (unhide (CS _ _ (KK.out _ (by assumption)) hk4)).mono ?_; rintro e w4 ⟨rfl, hb4⟩)))
    all_goals (have D := hide (KD.out _ (by assumption)))
    all_goals clear CN CS K0 g0 g1 g2 g3 g4 g5
    all_goals cases ab
    all_goals
      go_wp2_with (first
        | (go_at_call 107; refine (unhide (CA _ D.out.kids)).mono ?_; rintro e w5 ⟨rfl, hb5⟩; have D := hide (D.out.stays hb5); have p0 := Lib.cell_of_heap D.out.b0 0; have p1 := Lib.cell_of_heap D.out.b0 1; have p2 := Lib.cell_of_heap D.out.b0 2; simp at p0 p1 p2; clear hb5)
        | (go_at_call 108; refine (unhide (CR _ D.out.nds)).mono ?_; rintro e w6 ⟨rfl, hb6⟩; have D := hide (D.out.stays hb6); clear hb6))
    all_goals go_ret
    all_goals exact ⟨by rw [HF2.out]; rfl, D.out.bel⟩
end Go.Proofs.YtpdpmnkonkpheaaGreat
