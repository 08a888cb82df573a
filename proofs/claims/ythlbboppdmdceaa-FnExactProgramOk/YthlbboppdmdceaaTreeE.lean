/-
  Walks: how deep all nodes are, by the specification.
-/
import Derived.Test.YthlbboppdmdceaaTreeO
namespace Go.Proofs.Ythlbboppdmdceaa
open Go.RowKit

/-- Nodes whose lists and texts are no longer than may be. -/
def NsIn (ns : List Nd) : Prop := ∀ x ∈ ns, x.kids.length ≤ 1048576 ∧ x.name.size ≤ 1048576 ∧ x.more.size ≤ 1048576 ∧ x.into.size ≤ 1048576

def DeepR (w W1 : World) (ns : List Nd) (v iv : Value) (wr : World) : Prop :=
  ∃ k : Nat, k ≤ ns.length ∧ iv = .int .i64 k ∧ Hid (wr.ownsRow (w.heap.size + 1) 3 1 v k ((deepsTo ns k).map I64)) ∧ Hid (Below W1.heap.size W1 wr)
def DeepI (w2 : World) (out ks : List Int) (dv iv : Value) (wr : World) : Prop :=
  ∃ (j : Nat) (d : Int), j ≤ ks.length ∧ iv = .int .i64 j ∧ dv = .int .i64 d ∧ Hid (d = (ks.take j).foldl (kidDeep out) 1) ∧ 1 ≤ d ∧ d ≤ 11 ∧ wr = w2

/-- The end of a round: d is how deep the kids make it. -/
theorem deep_end {ns : List Nd} {k : Nat} {d : Int} (h : kidsDeep ns (deepsTo ns k) k = d) : cutDeep (deepsTo ns k) k (kidsDeep ns (deepsTo ns k) k) = if 10 < d ∨ (0 < k ∧ (deepsTo ns k).getD (k - 1) 0 = 0) then 0 else d := by
  rw [h, cutDeep]

set_option maxRecDepth 100000 in
set_option maxHeartbeats 2000000 in
theorem l05Deeps_any (nv mv pv : Value) (ns : List Nd) (w : World) (hN : NdsAt w nv ns) (hl : ns.length ≤ 1048576) (hin : NsIn ns) :
    Calls Try.prog 32 #[.agg #[nv, mv, pv]] w fun e w' => ∃ v, e = .returned v ∧ w'.ownsRow (w.heap.size + 1) 3 1 v ns.length ((deepsTo ns ns.length).map I64) ∧ Below w.heap.size w w' := by
  have hb1 : Below w.heap.size w (w.alloc (.cells #[nv, mv, pv] 33)) := (Below.refl _ _).alloc (Nat.le_refl _) _
  have HN := hide (hN.stays hb1)
  have HX := hide (Boxed.made w nv mv pv 33)
  have HB := hide hb1
  have HS : Hid ((w.alloc (.cells #[nv, mv, pv] 33)).heap.size = w.heap.size + 1) := by show _ = _; simp
  clear hb1
  have CN := fun k hk w (h : NdsAt w nv ns) => have := hin _ (List.getElem_mem hk); hide (specNodeOk_in nv mv pv ns k w h hk hl this.1 this.2.1 this.2.2.1 this.2.2.2)
  have hin2 := hide hin
  clear hin
  obtain ⟨ao, c, rfl, _⟩ := hN
  go_enter Try.func32, Try.ntmps32
  go_wp2
  obtain ⟨W1, hW⟩ : ∃ W1, w.alloc (.cells #[.slice ao ns.length c, mv, pv] 33) = W1 := ⟨_, rfl⟩
  rw [hW] at HN HX HB HS ⊢
  clear hW
  obtain ⟨n, en⟩ : ∃ n, ns.length = n := ⟨_, rfl⟩
  have EN := hide en
  rw [en] at HN HX hl ⊢
  clear en
  go_loopw [3, 4] (DeepR w W1 ns) (fun _ iv _ => n - (intOf iv).toNat)
  case atStart => exact ⟨0, by omega, rfl, by
    have := ownsRow_empty W1 (w.heap.size + 1) 3 (by rw [HS.out]; exact Nat.le_refl _)
    rw [HS.out] at this
    exact this, (Below.refl _ _).alloc (Nat.le_refl _) _⟩
  case round =>
    obtain ⟨k, hk, rfl, HO, HB2⟩ := hrel
    obtain ⟨c0, c1, c2, _⟩ := HX.out.stays HB2.out
    rw [EN.out] at hk
    by_cases hlt : k < n
    · have hlt' : (k : Int) < (n : Int) := by omega
      have hk0 : (0 : Int) ≤ (k : Int) := by omega
      have hkx : k < ns.length := by rw [EN.out]; exact hlt
      have HN2 := hide (HN.out.stays HB2.out)
      have C := CN k hkx
      have HKL := hide (hin2.out _ (List.getElem_mem hkx)).1
      have HG := hide (getD_at hkx)
      obtain ⟨x, ex⟩ : ∃ x, ns[k] = x := ⟨_, rfl⟩
      have EX := hide ex
      have HA : Hid (nodeB x (kinds ns k) = true → ∀ (i : Nat) (hi : i < x.kids.length), 0 ≤ x.kids[i] ∧ x.kids[i] < (k : Int)) := by
        show _ → _
        rw [← ex]; exact fun h => nodeB_ahead hkx h
      simp only [ex] at C HKL HG
      simp only [EN.out] at C
      obtain ⟨out, eo⟩ : ∃ out, deepsTo ns k = out := ⟨_, rfl⟩
      have EO := hide eo
      have hD : Hid (Deeps out) := by rw [← eo]; exact deepsTo_in ns k
      have HLO : Hid (out.length = k) := by rw [← eo]; exact deepsTo_len ns k
      rw [eo] at HO
      clear ex eo CN hin2
      cases hnb : nodeB x (kinds ns k) with
      | false =>
        have HE0 : Hid (kidsDeep ns (deepsTo ns k) k = 0) := by show _ = _; rw [kidsDeep, HG.out, hnb]; rfl
        have HE1 := hide (deep_end HE0.out)
        rw [hnb] at C
        clear hnb HA
        rcases k with _ | k
        · have HE : Hid (cutDeep (deepsTo ns 0) 0 (kidsDeep ns (deepsTo ns 0) 0) = 0) := by show _ = _; rw [HE1.out]; rfl
          (go_wp2_with (first
    | (go_at_call 6; refine (unhide (C _ HN2.out)).mono ?_; rintro e w2 ⟨rfl, hb2⟩; have HB3 := hide (HB2.out.trans (hb2.mono HB2.out.size)); have HO := hide (ownsInts_stays HO.out hb2); have hwz : w.heap.size + 1 ≤ w2.heap.size := Nat.le_trans (Nat.le_of_eq HS.out.symm) HB3.out.size; (try have hz := (hb2.cell hg2).trans hz0); clear hb2)
    | (at_builtin; refine wpList_app1 rfl (.tmp 71) (.tmp 73) 43 rfl (w.heap.size + 1) 3 (.int .i64 0) 8 Try.underlying43 Try.infoInt rfl _ _ _ _ rfl HO.out rfl rfl (by unfold maxLen; omega) (by omega) hwz ?_)))
          (
  intro v' w4 hown4 hb4;
  have R : DeepR w W1 ns v' (.int .i64 (((0 : Nat) : Int) + 1)) w4 := ⟨0 + 1, (by rw [EN.out]; omega), rfl, hide (by rw [deepsTo, HE.out, EO.out]; simpa using hown4), HB3.out.trans (by rw [HS.out]; exact hb4)⟩;
  clear hown4 hb4;
  go_wp2;
  go_roundw)
          case rel => exact R
          case measure => simp [intOf]; omega
        · have HE : Hid (cutDeep (deepsTo ns (k + 1)) (k + 1) (kidsDeep ns (deepsTo ns (k + 1)) (k + 1)) = 0) := by show _ = _; rw [HE1.out]; split <;> rfl
          obtain ⟨g, cap, rfl, hg1, hg2, hcell⟩ := ownsInts_form HO.out (Nat.succ_pos k)
          have hz0 := hcell k (Nat.lt_succ_self k)
          obtain ⟨z, ez⟩ : ∃ z, out.getD k 0 = z := ⟨_, rfl⟩
          rw [ez] at hz0
          clear ez hcell
          by_cases hz1 : z = 0
          · subst hz1
            (go_wp2_with (first
    | (go_at_call 6; refine (unhide (C _ HN2.out)).mono ?_; rintro e w2 ⟨rfl, hb2⟩; have HB3 := hide (HB2.out.trans (hb2.mono HB2.out.size)); have HO := hide (ownsInts_stays HO.out hb2); have hwz : w.heap.size + 1 ≤ w2.heap.size := Nat.le_trans (Nat.le_of_eq HS.out.symm) HB3.out.size; (try have hz := (hb2.cell hg2).trans hz0); clear hb2)
    | (at_builtin; refine wpList_app1 rfl (.tmp 71) (.tmp 73) 43 rfl (w.heap.size + 1) 3 (.int .i64 0) 8 Try.underlying43 Try.infoInt rfl _ _ _ _ rfl HO.out rfl rfl (by unfold maxLen; omega) (by omega) hwz ?_)))
            (
  intro v' w4 hown4 hb4;
  have R : DeepR w W1 ns v' (.int .i64 ((((k + 1) : Nat) : Int) + 1)) w4 := ⟨(k + 1) + 1, (by rw [EN.out]; omega), rfl, hide (by rw [deepsTo, HE.out, EO.out]; simpa using hown4), HB3.out.trans (by rw [HS.out]; exact hb4)⟩;
  clear hown4 hb4;
  go_wp2;
  go_roundw)
            case rel => exact R
            case measure => simp [intOf]; omega
          · (go_wp2_with (first
    | (go_at_call 6; refine (unhide (C _ HN2.out)).mono ?_; rintro e w2 ⟨rfl, hb2⟩; have HB3 := hide (HB2.out.trans (hb2.mono HB2.out.size)); have HO := hide (ownsInts_stays HO.out hb2); have hwz : w.heap.size + 1 ≤ w2.heap.size := Nat.le_trans (Nat.le_of_eq HS.out.symm) HB3.out.size; (try have hz := (hb2.cell hg2).trans hz0); clear hb2)
    | (at_builtin; refine wpList_app1 rfl (.tmp 71) (.tmp 73) 43 rfl (w.heap.size + 1) 3 (.int .i64 0) 8 Try.underlying43 Try.infoInt rfl _ _ _ _ rfl HO.out rfl rfl (by unfold maxLen; omega) (by omega) hwz ?_)))
            (
  intro v' w4 hown4 hb4;
  have R : DeepR w W1 ns v' (.int .i64 ((((k + 1) : Nat) : Int) + 1)) w4 := ⟨(k + 1) + 1, (by rw [EN.out]; omega), rfl, hide (by rw [deepsTo, HE.out, EO.out]; simpa using hown4), HB3.out.trans (by rw [HS.out]; exact hb4)⟩;
  clear hown4 hb4;
  go_wp2;
  go_roundw)
            case rel => exact R
            case measure => simp [intOf]; omega
      | true =>
        have HA := hide (HA.out hnb)
        have HK : Hid (kidsDeep ns (deepsTo ns k) k = x.kids.foldl (kidDeep out) 1) := by show _ = _; rw [kidsDeep, HG.out, hnb, EO.out]; rfl
        rw [hnb] at C
        clear hnb
        obtain ⟨m, em⟩ : ∃ m, x.kids.length = m := ⟨_, rfl⟩
        have EM := hide em
        rw [em] at HKL
        have hm : m ≤ 1048576 := HKL.out
        clear em
        go_wp2_with (go_at_call 6; refine (unhide (C _ HN2.out)).mono ?_; rintro e w2 ⟨rfl, hb2⟩; have HB3 := hide (HB2.out.trans (hb2.mono HB2.out.size)); have HO := hide (ownsInts_stays HO.out hb2); have hwz : w.heap.size + 1 ≤ w2.heap.size := Nat.le_trans (Nat.le_of_eq HS.out.symm) HB3.out.size; have HN3 := hide (HN2.out.stays hb2); obtain ⟨f0, f1, f2, _⟩ := HX.out.stays HB3.out; clear hb2)
        clear c0 c1 c2
        go_loopw [5, 6] (DeepI w2 out x.kids) (fun _ iv _ => m - (intOf iv).toNat)
        case atStart => exact ⟨0, 1, by omega, rfl, rfl, rfl, by omega, by omega, rfl⟩
        case round =>
          obtain ⟨j, d, hj, rfl, rfl, HD, hd1, hd2, rfl⟩ := hrel
          rw [EM.out] at hj
          obtain ⟨a, cc, p, kv, e5, hpa, hpb, hnode⟩ := HN3.out.node k hkx
          injection e5 with e6 e7 e8
          subst e6
          have d5 := hnode.c5
          have hkr := hnode.kids
          rw [EX.out] at hkr
          obtain ⟨bo, cb, rfl, hkc⟩ := hkr
          rw [EM.out] at d5
          clear hnode e7 e8
          by_cases hlt2 : j < m
          · have hlt2' : (j : Int) < (m : Int) := by omega
            have hj0 : (0 : Int) ≤ (j : Int) := by omega
            have hjx : j < x.kids.length := by rw [EM.out]; exact hlt2
            obtain ⟨b, rfl, hbb, hy⟩ := hkc j hjx
            obtain ⟨hy0, hy1⟩ := HA.out j hjx
            have EJ : Hid ((x.kids.take (j + 1)).foldl (kidDeep out) 1 = kidDeep out d x.kids[j]) := by
              show _ = _
              rw [List.take_add_one, List.getElem?_eq_getElem hjx, List.foldl_append, HD.out]
              rfl
            obtain ⟨y, ey⟩ : ∃ y, x.kids[j] = y := ⟨_, rfl⟩
            rw [ey] at hy hy0 hy1 EJ
            clear ey hkc
            obtain ⟨t, et⟩ : ∃ t : Nat, y = (t : Int) := ⟨y.toNat, by omega⟩
            subst et
            obtain ⟨g, cap, rfl, hg1, hg2, hcell⟩ := ownsInts_form HO.out (by omega)
            have hz := hcell t (by omega)
            have hzi := hD.out t
            have EK : Hid (kidDeep out d (t : Int) = if d < out.getD t 0 + 1 then out.getD t 0 + 1 else d) := by show _ = _; rw [kidDeep]; rfl
            obtain ⟨z, ez⟩ : ∃ z, out.getD t 0 = z := ⟨_, rfl⟩
            rw [ez] at hz hzi EK
            obtain ⟨hz0, hz1⟩ := hzi
            clear ez hcell
            by_cases hq : d < z + 1
            · have EQ : Hid (z + 1 = (x.kids.take (j + 1)).foldl (kidDeep out) 1) := by show _ = _; rw [EJ.out, EK.out, if_pos hq]
              go_wp2
              go_roundw
              case rel => exact ⟨j + 1, z + 1, by rw [EM.out]; omega, by go_num, by go_num, EQ.out, by omega, by omega, rfl⟩
              case measure => simp [intOf]; omega
            · have EQ : Hid (d = (x.kids.take (j + 1)).foldl (kidDeep out) 1) := by show _ = _; rw [EJ.out, EK.out, if_neg hq]
              go_wp2
              go_roundw
              case rel => exact ⟨j + 1, d, by rw [EM.out]; omega, by go_num, rfl, EQ.out, by omega, by omega, rfl⟩
              case measure => simp [intOf]; omega
          · have hlt2' : ¬ (j : Int) < (m : Int) := by omega
            have HE0 : Hid (kidsDeep ns (deepsTo ns k) k = d) := by show _ = _; rw [HK.out, HD.out, List.take_of_length_le (by rw [EM.out]; omega)]
            have HE1 := hide (deep_end HE0.out)
            clear hkc HA
            by_cases hq : 10 < d
            · have HE : Hid (cutDeep (deepsTo ns k) k (kidsDeep ns (deepsTo ns k) k) = 0) := by show _ = _; rw [HE1.out, if_pos (.inl hq)]
              (go_wp2_with (first
    | (go_at_call 6; refine (unhide (C _ HN2.out)).mono ?_; rintro e w2 ⟨rfl, hb2⟩; have HB3 := hide (HB2.out.trans (hb2.mono HB2.out.size)); have HO := hide (ownsInts_stays HO.out hb2); have hwz : w.heap.size + 1 ≤ w2.heap.size := Nat.le_trans (Nat.le_of_eq HS.out.symm) HB3.out.size; (try have hz := (hb2.cell hg2).trans hz0); clear hb2)
    | (at_builtin; refine wpList_app1 rfl (.tmp 71) (.tmp 73) 43 rfl (w.heap.size + 1) 3 (.int .i64 0) 8 Try.underlying43 Try.infoInt rfl _ _ _ _ rfl HO.out rfl rfl (by unfold maxLen; omega) (by omega) hwz ?_)))
              (
  intro v' w4 hown4 hb4;
  have R : DeepR w W1 ns v' (.int .i64 (((k : Nat) : Int) + 1)) w4 := ⟨k + 1, (by rw [EN.out]; omega), rfl, hide (by rw [deepsTo, HE.out, EO.out]; simpa using hown4), HB3.out.trans (by rw [HS.out]; exact hb4)⟩;
  clear hown4 hb4;
  go_wp2;
  go_roundw)
              case rel => exact R
              case measure => simp [intOf]; omega
            · rcases k with _ | k
              · have HE : Hid (cutDeep (deepsTo ns 0) 0 (kidsDeep ns (deepsTo ns 0) 0) = d) := by show _ = _; rw [HE1.out, if_neg (by omega)]
                (go_wp2_with (first
    | (go_at_call 6; refine (unhide (C _ HN2.out)).mono ?_; rintro e w2 ⟨rfl, hb2⟩; have HB3 := hide (HB2.out.trans (hb2.mono HB2.out.size)); have HO := hide (ownsInts_stays HO.out hb2); have hwz : w.heap.size + 1 ≤ w2.heap.size := Nat.le_trans (Nat.le_of_eq HS.out.symm) HB3.out.size; (try have hz := (hb2.cell hg2).trans hz0); clear hb2)
    | (at_builtin; refine wpList_app1 rfl (.tmp 71) (.tmp 73) 43 rfl (w.heap.size + 1) 3 (.int .i64 0) 8 Try.underlying43 Try.infoInt rfl _ _ _ _ rfl HO.out rfl rfl (by unfold maxLen; omega) (by omega) hwz ?_)))
                (
  intro v' w4 hown4 hb4;
  have R : DeepR w W1 ns v' (.int .i64 (((0 : Nat) : Int) + 1)) w4 := ⟨0 + 1, (by rw [EN.out]; omega), rfl, hide (by rw [deepsTo, HE.out, EO.out]; simpa using hown4), HB3.out.trans (by rw [HS.out]; exact hb4)⟩;
  clear hown4 hb4;
  go_wp2;
  go_roundw)
                case rel => exact R
                case measure => simp [intOf]; omega
              · obtain ⟨g, cap, rfl, hg1, hg2, hcell⟩ := ownsInts_form HO.out (Nat.succ_pos k)
                have hz0 := hcell k (Nat.lt_succ_self k)
                rw [EO.out] at HE1
                have HE1 : Hid (_ = if 10 < d ∨ (0 < k + 1 ∧ out.getD k 0 = 0) then 0 else d) := HE1
                obtain ⟨z, ez⟩ : ∃ z, out.getD k 0 = z := ⟨_, rfl⟩
                rw [ez] at hz0 HE1
                clear ez hcell
                by_cases hz1 : z = 0
                · have HE : Hid (cutDeep (deepsTo ns (k + 1)) (k + 1) (kidsDeep ns (deepsTo ns (k + 1)) (k + 1)) = 0) := by show _ = _; rw [EO.out, HE1.out, if_pos (.inr ⟨by omega, hz1⟩)]
                  subst hz1
                  (go_wp2_with (first
    | (go_at_call 6; refine (unhide (C _ HN2.out)).mono ?_; rintro e w2 ⟨rfl, hb2⟩; have HB3 := hide (HB2.out.trans (hb2.mono HB2.out.size)); have HO := hide (ownsInts_stays HO.out hb2); have hwz : w.heap.size + 1 ≤ w2.heap.size := Nat.le_trans (Nat.le_of_eq HS.out.symm) HB3.out.size; (try have hz := (hb2.cell hg2).trans hz0); clear hb2)
    | (at_builtin; refine wpList_app1 rfl (.tmp 71) (.tmp 73) 43 rfl (w.heap.size + 1) 3 (.int .i64 0) 8 Try.underlying43 Try.infoInt rfl _ _ _ _ rfl HO.out rfl rfl (by unfold maxLen; omega) (by omega) hwz ?_)))
                  (
  intro v' w4 hown4 hb4;
  have R : DeepR w W1 ns v' (.int .i64 ((((k + 1) : Nat) : Int) + 1)) w4 := ⟨(k + 1) + 1, (by rw [EN.out]; omega), rfl, hide (by rw [deepsTo, HE.out, EO.out]; simpa using hown4), HB3.out.trans (by rw [HS.out]; exact hb4)⟩;
  clear hown4 hb4;
  go_wp2;
  go_roundw)
                  case rel => exact R
                  case measure => simp [intOf]; omega
                · have HE : Hid (cutDeep (deepsTo ns (k + 1)) (k + 1) (kidsDeep ns (deepsTo ns (k + 1)) (k + 1)) = d) := by show _ = _; rw [EO.out, HE1.out, if_neg (by omega)]
                  (go_wp2_with (first
    | (go_at_call 6; refine (unhide (C _ HN2.out)).mono ?_; rintro e w2 ⟨rfl, hb2⟩; have HB3 := hide (HB2.out.trans (hb2.mono HB2.out.size)); have HO := hide (ownsInts_stays HO.out hb2); have hwz : w.heap.size + 1 ≤ w2.heap.size := Nat.le_trans (Nat.le_of_eq HS.out.symm) HB3.out.size; (try have hz := (hb2.cell hg2).trans hz0); clear hb2)
    | (at_builtin; refine wpList_app1 rfl (.tmp 71) (.tmp 73) 43 rfl (w.heap.size + 1) 3 (.int .i64 0) 8 Try.underlying43 Try.infoInt rfl _ _ _ _ rfl HO.out rfl rfl (by unfold maxLen; omega) (by omega) hwz ?_)))
                  (
  intro v' w4 hown4 hb4;
  have R : DeepR w W1 ns v' (.int .i64 ((((k + 1) : Nat) : Int) + 1)) w4 := ⟨(k + 1) + 1, (by rw [EN.out]; omega), rfl, hide (by rw [deepsTo, HE.out, EO.out]; simpa using hown4), HB3.out.trans (by rw [HS.out]; exact hb4)⟩;
  clear hown4 hb4;
  go_wp2;
  go_roundw)
                  case rel => exact R
                  case measure => simp [intOf]; omega
    · have hlt' : ¬ (k : Int) < (n : Int) := by omega
      have ei : k = n := by omega
      subst ei
      go_wp2
      go_ret
      exact ⟨_, rfl, by rw [EN.out]; exact HO.out, HB.out.trans (HB2.out.mono HB.out.size)⟩
end Go.Proofs.Ythlbboppdmdceaa

namespace Go.Proofs.Ythlbboppdmdceaa
open Go.RowKit

/-- Is there a right node at a place? -/
def nodeAt (ns : List Nd) (k : Int) : Bool := inZ 0 ((ns.length : Int) - 1) k && nodeB (ns.getD k.toNat default) (kinds ns k.toNat)

set_option maxHeartbeats 1000000 in
theorem specNodeOk_any (nv mv pv : Value) (ns : List Nd) (k : Int) (w : World) (hN : NdsAt w nv ns) (hl : ns.length ≤ 1048576) (hin : NsIn ns) :
    Calls Try.prog 6 #[.agg #[nv, mv, pv], .int .i64 k] w fun e w' => e = .returned (.bool (nodeAt ns k)) ∧ Below w.heap.size w w' := by
  cases h : inZ 0 ((ns.length : Int) - 1) k with
  | true =>
    obtain ⟨h0, h1⟩ := inZ_yes.1 h
    obtain ⟨j, rfl⟩ : ∃ j : Nat, k = (j : Int) := ⟨k.toNat, by omega⟩
    have hj : j < ns.length := by omega
    have hi := hin _ (List.getElem_mem hj)
    have e : nodeAt ns (j : Int) = nodeB ns[j] (kinds ns j) := by
      rw [nodeAt, h, Int.toNat_natCast, getD_at hj]
      rfl
    rw [e]
    exact specNodeOk_in nv mv pv ns j w hN hj hl hi.1 hi.2.1 hi.2.2.1 hi.2.2.2
  | false =>
    have HF : Hid (nodeAt ns k = false) := by show _ = _; rw [nodeAt, h]; rfl
    have C := fun w => hide (l01In_gen k 0 ((ns.length : Int) - 1) w)
    rw [h] at C
    have HB : Hid (Below w.heap.size w (w.alloc (.cells #[nv, mv, pv] 33))) := (Below.refl _ _).alloc (Nat.le_refl _) _
    obtain ⟨ao, c, rfl, _⟩ := hN
    clear h hin
    go_enter Try.func6, Try.ntmps6
    go_wp2_with (go_at_call 15; refine (unhide (C _)).mono ?_; rintro e w1 ⟨rfl, rfl⟩)
    go_ret
    exact ⟨by rw [HF.out]; rfl, HB.out⟩
end Go.Proofs.Ythlbboppdmdceaa
