/-
  How deep all nodes are: as a function on nodes, and the specification's walk.
-/
import Derived.Test.YtdfahpachbhglaaGreatDoorTreeN
import Derived.Test.YtdfahpachbhglaaGreatDoorRowP
namespace Go.Proofs.YtdfahpachbhglaaGreatDoor
open Go.RowKit

def kidDeep (out : List Int) (d x : Int) : Int := if d < out.getD x.toNat 0 + 1 then out.getD x.toNat 0 + 1 else d
def kidsDeep (ns : List Nd) (out : List Int) (k : Nat) : Int := if nodeB (ns.getD k default) (kinds ns k) then (ns.getD k default).kids.foldl (kidDeep out) 1 else 0
def cutDeep (out : List Int) (k : Nat) (d : Int) : Int := if 10 < d ∨ (0 < k ∧ out.getD (k - 1) 0 = 0) then 0 else d
/-- How deep the first k nodes are. -/
def deepsTo (ns : List Nd) : Nat → List Int
  | 0 => []
  | k + 1 => deepsTo ns k ++ [cutDeep (deepsTo ns k) k (kidsDeep ns (deepsTo ns k) k)]

def Deeps (l : List Int) : Prop := ∀ i, 0 ≤ l.getD i 0 ∧ l.getD i 0 ≤ 10
theorem deepsTo_len (ns : List Nd) : ∀ k, (deepsTo ns k).length = k
  | 0 => rfl
  | k + 1 => by simp [deepsTo, deepsTo_len ns k]
theorem kidDeep_in {out : List Int} (h : Deeps out) {d : Int} (hd : 1 ≤ d ∧ d ≤ 11) (x : Int) : 1 ≤ kidDeep out d x ∧ kidDeep out d x ≤ 11 := by
  have := h x.toNat
  unfold kidDeep
  split <;> omega
theorem foldDeep_in {out : List Int} (h : Deeps out) : ∀ (l : List Int) (d : Int), 1 ≤ d ∧ d ≤ 11 → 1 ≤ l.foldl (kidDeep out) d ∧ l.foldl (kidDeep out) d ≤ 11
  | [], _, hd => hd
  | x :: l, _, hd => foldDeep_in h l _ (kidDeep_in h hd x)
theorem kidsDeep_in {ns : List Nd} {out : List Int} (h : Deeps out) (k : Nat) : 0 ≤ kidsDeep ns out k ∧ kidsDeep ns out k ≤ 11 := by
  unfold kidsDeep
  split
  · have := foldDeep_in h (ns.getD k default).kids 1 (by omega)
    omega
  · omega
theorem deepsTo_in (ns : List Nd) : ∀ k, Deeps (deepsTo ns k)
  | 0 => fun i => by simp [deepsTo]
  | k + 1 => fun i => by
    have h := deepsTo_in ns k
    have hk := kidsDeep_in (ns := ns) h k
    rcases Nat.lt_trichotomy i k with hi | hi | hi
    · have e : (deepsTo ns (k + 1)).getD i 0 = (deepsTo ns k).getD i 0 := by
        simp [deepsTo, List.getD_eq_getElem?_getD, List.getElem?_append_left (show i < (deepsTo ns k).length by rw [deepsTo_len]; exact hi)]
      rw [e]; exact h i
    · have e : (deepsTo ns (k + 1)).getD i 0 = cutDeep (deepsTo ns k) k (kidsDeep ns (deepsTo ns k) k) := by
        subst hi
        simp [deepsTo, List.getD_eq_getElem?_getD, deepsTo_len]
      rw [e, cutDeep]
      split <;> omega
    · have e : (deepsTo ns (k + 1)).getD i 0 = 0 := by
        rw [List.getD_eq_getElem?_getD, List.getElem?_eq_none (by rw [deepsTo_len]; omega)]
        rfl
      rw [e]; omega

/-- The kids of a right node lie ahead. -/
theorem kidsB_ahead {kd : Int} {l : List Int} (h : kidsB kd l = true) : ∀ y ∈ l, y ≠ 0 := by
  intro y hy
  have hv : ∀ x : Int, valueQ x = true → x ≠ 0 := fun x hx => by have := inZ_yes.1 hx; omega
  have hs : ∀ x : Int, stmtQ x = true → x ≠ 0 := fun x hx => by have := inZ_yes.1 hx; omega
  have hb : ∀ x : Int, blockQ x = true → x ≠ 0 := fun x hx => by simp [blockQ] at hx; omega
  have two : ∀ {q r : Int → Bool} {n : Nat}, (l.take n).all q = true → (l.drop n).all r = true → q y = true ∨ r y = true := by
    intro q r n h1 h2
    rw [← List.take_append_drop n l, List.mem_append] at hy
    rcases hy with hy | hy
    · exact .inl (List.all_eq_true.1 h1 y hy)
    · exact .inr (List.all_eq_true.1 h2 y hy)
  have full : ∀ {q : Int → Bool} {n : Nat}, l.length = n → (l.take n).all q = true → q y = true := by
    intro q n h1 h2
    rw [List.take_of_length_le (by omega)] at h2
    exact List.all_eq_true.1 h2 y hy
  unfold kidsB at h
  split at h
  · rw [decide_eq_true_eq, List.length_eq_zero_iff] at h
    subst h
    simp at hy
  split at h
  · rw [Bool.and_eq_true, decide_eq_true_eq] at h
    exact hv y (full h.1 h.2)
  split at h
  · rw [Bool.and_eq_true, decide_eq_true_eq] at h
    exact hv y (full h.1 h.2)
  split at h
  · rw [Bool.and_eq_true, Bool.and_eq_true] at h
    rcases two h.1.2 h.2 with h | h
    · exact hv y h
    · exact hb y h
  split at h
  · rw [Bool.and_eq_true, Bool.and_eq_true] at h
    rcases two h.1.2 h.2 with h | h
    · exact hv y h
    · exact hb y h
  · rw [Bool.and_eq_true] at h
    exact hs y (List.all_eq_true.1 h.1 y hy)
theorem nodeB_kids {x : Nd} {l : List Int} (h : nodeB x l = true) : kidsB x.kind l = true := by
  simp only [nodeB, Bool.and_eq_true] at h
  exact h.1.1.1.2
theorem nodeB_ahead {ns : List Nd} {k : Nat} (hk : k < ns.length) (h : nodeB ns[k] (kinds ns k) = true) (i : Nat) (hi : i < ns[k].kids.length) : 0 ≤ ns[k].kids[i] ∧ ns[k].kids[i] < (k : Int) := by
  have h1 := kidsB_ahead (nodeB_kids h) _ (List.mem_iff_getElem?.2 ⟨i, kinds_at? hk hi⟩)
  unfold kidKind at h1
  split at h1
  · next h2 => have := inZ_yes.1 h2; omega
  · exact absurd rfl h1
end Go.Proofs.YtdfahpachbhglaaGreatDoor

namespace Go.Proofs.YtdfahpachbhglaaGreatDoor
open Go.RowKit

/-- Nodes whose lists and texts are no longer than may be. -/
def NsIn (ns : List Nd) : Prop := ∀ x ∈ ns, x.kids.length ≤ 1048576 ∧ x.name.size ≤ 1048576 ∧ x.more.size ≤ 1048576 ∧ x.into.size ≤ 1048576

def DeepR (w W1 : World) (ns : List Nd) (v iv : Value) (wr : World) : Prop :=
  ∃ k : Nat, k ≤ ns.length ∧ iv = .int .i64 k ∧ Hid (wr.ownsRow (w.heap.size + 1) 3 1 v k ((deepsTo ns k).map I64)) ∧ Hid (Below W1.heap.size W1 wr)
def DeepI (w2 : World) (out ks : List Int) (dv iv : Value) (wr : World) : Prop :=
  ∃ (j : Nat) (d : Int), j ≤ ks.length ∧ iv = .int .i64 j ∧ dv = .int .i64 d ∧ Hid (d = (ks.take j).foldl (kidDeep out) 1) ∧ 1 ≤ d ∧ d ≤ 11 ∧ wr = w2

/-- The end of a round: d is how deep the kids make it. -/
theorem deep_end {ns : List Nd} {k : Nat} {d : Int} (h : kidsDeep ns (deepsTo ns k) k = d) : cutDeep (deepsTo ns k) k (kidsDeep ns (deepsTo ns k) k) = if 10 < d ∨ (0 < k ∧ (deepsTo ns k).getD (k - 1) 0 = 0) then 0 else d := by
  rw [h, cutDeep]

set_option maxRecDepth 100000 in
set_option maxHeartbeats 2000000 in
theorem l05Deeps_any (nv mv pv : Value) (ns : List Nd) (w : World) (hN : NdsAt w nv ns) (hl : ns.length ≤ 1048576) (hin : NsIn ns) :
    Calls Tryz.prog 29 #[.agg #[nv, mv, pv]] w fun e w' => ∃ v, e = .returned v ∧ w'.ownsRow (w.heap.size + 1) 3 1 v ns.length ((deepsTo ns ns.length).map I64) ∧ Below w.heap.size w w' := by
  have hb1 : Below w.heap.size w (w.alloc (.cells #[nv, mv, pv] 34)) := (Below.refl _ _).alloc (Nat.le_refl _) _
  have HN := hide (hN.stays hb1)
  have HX := hide (Boxed.made w nv mv pv 34)
  have HB := hide hb1
  have HS : Hid ((w.alloc (.cells #[nv, mv, pv] 34)).heap.size = w.heap.size + 1) := by show _ = _; simp
  clear hb1
  have CN := fun k hk w (h : NdsAt w nv ns) => have := hin _ (List.getElem_mem hk); hide (specNodeOk_in nv mv pv ns k w h hk hl this.1 this.2.1 this.2.2.1 this.2.2.2)
  have hin2 := hide hin
  clear hin
  obtain ⟨ao, c, rfl, _⟩ := hN
  go_enter Tryz.func29, Tryz.ntmps29
  go_wp2
  obtain ⟨W1, hW⟩ : ∃ W1, w.alloc (.cells #[.slice ao ns.length c, mv, pv] 34) = W1 := ⟨_, rfl⟩
  rw [hW] at HN HX HB HS ⊢
  clear hW
  obtain ⟨n, en⟩ : ∃ n, ns.length = n := ⟨_, rfl⟩
  have EN := hide en
  rw [en] at HN HX hl ⊢
  clear en
  go_loopw [3, 4] (DeepR w W1 ns) (fun _ iv _ => n - (intOf iv).toNat)
  case atStart => exact ⟨0, by omega, rfl, by
    have := ownsRow_empty W1 (w.heap.size + 1) 3 (by rw [HS.out]; exact Nat.le_refl _)
    rw [HS.out] at this
    exact this, (Below.refl _ _).alloc (Nat.le_refl _) _⟩
  case round =>
    obtain ⟨k, hk, rfl, HO, HB2⟩ := hrel
    obtain ⟨c0, c1, c2, _⟩ := HX.out.stays HB2.out
    rw [EN.out] at hk
    by_cases hlt : k < n
    · have hlt' : (k : Int) < (n : Int) := by omega
      have hk0 : (0 : Int) ≤ (k : Int) := by omega
      have hkx : k < ns.length := by rw [EN.out]; exact hlt
      have HN2 := hide (HN.out.stays HB2.out)
      have C := CN k hkx
      have HKL := hide (hin2.out _ (List.getElem_mem hkx)).1
      have HG := hide (getD_at hkx)
      obtain ⟨x, ex⟩ : ∃ x, ns[k] = x := ⟨_, rfl⟩
      have EX := hide ex
      have HA : Hid (nodeB x (kinds ns k) = true → ∀ (i : Nat) (hi : i < x.kids.length), 0 ≤ x.kids[i] ∧ x.kids[i] < (k : Int)) := by
        show _ → _
        rw [← ex]; exact fun h => nodeB_ahead hkx h
      simp only [ex] at C HKL HG
      simp only [EN.out] at C
      obtain ⟨out, eo⟩ : ∃ out, deepsTo ns k = out := ⟨_, rfl⟩
      have EO := hide eo
      have hD : Hid (Deeps out) := by rw [← eo]; exact deepsTo_in ns k
      have HLO : Hid (out.length = k) := by rw [← eo]; exact deepsTo_len ns k
      rw [eo] at HO
      clear ex eo CN hin2
      cases hnb : nodeB x (kinds ns k) with
      | false =>
        have HE0 : Hid (kidsDeep ns (deepsTo ns k) k = 0) := by show _ = _; rw [kidsDeep, HG.out, hnb]; rfl
        have HE1 := hide (deep_end HE0.out)
        rw [hnb] at C
        clear hnb HA
        rcases k with _ | k
        · have HE : Hid (cutDeep (deepsTo ns 0) 0 (kidsDeep ns (deepsTo ns 0) 0) = 0) := by show _ = _; rw [HE1.out]; rfl
          (go_wp2_with (first
    | (go_at_call 53; refine (unhide (C _ HN2.out)).mono ?_; rintro e w2 ⟨rfl, hb2⟩; have HB3 := hide (HB2.out.trans (hb2.mono HB2.out.size)); have HO := hide (ownsInts_stays HO.out hb2); have hwz : w.heap.size + 1 ≤ w2.heap.size := Nat.le_trans (Nat.le_of_eq HS.out.symm) HB3.out.size; (try have hz := (hb2.cell hg2).trans hz0); clear hb2)
    | (at_builtin; refine wpList_app1 rfl (.tmp 71) (.tmp 73) 67 rfl (w.heap.size + 1) 3 (.int .i64 0) 8 Tryz.underlying67 Tryz.infoInt rfl _ _ _ _ rfl HO.out rfl rfl (by unfold maxLen; omega) (by omega) hwz ?_)))
          (
  intro v' w4 hown4 hb4;
  have R : DeepR w W1 ns v' (.int .i64 (((0 : Nat) : Int) + 1)) w4 := ⟨0 + 1, (by rw [EN.out]; omega), rfl, hide (by rw [deepsTo, HE.out, EO.out]; simpa using hown4), HB3.out.trans (by rw [HS.out]; exact hb4)⟩;
  clear hown4 hb4;
  go_wp2;
  go_roundw)
          case rel => exact R
          case measure => simp [intOf]; omega
        · have HE : Hid (cutDeep (deepsTo ns (k + 1)) (k + 1) (kidsDeep ns (deepsTo ns (k + 1)) (k + 1)) = 0) := by show _ = _; rw [HE1.out]; split <;> rfl
          obtain ⟨g, cap, rfl, hg1, hg2, hcell⟩ := ownsInts_form HO.out (Nat.succ_pos k)
          have hz0 := hcell k (Nat.lt_succ_self k)
          obtain ⟨z, ez⟩ : ∃ z, out.getD k 0 = z := ⟨_, rfl⟩
          rw [ez] at hz0
          clear ez hcell
          by_cases hz1 : z = 0
          · subst hz1
            (go_wp2_with (first
    | (go_at_call 53; refine (unhide (C _ HN2.out)).mono ?_; rintro e w2 ⟨rfl, hb2⟩; have HB3 := hide (HB2.out.trans (hb2.mono HB2.out.size)); have HO := hide (ownsInts_stays HO.out hb2); have hwz : w.heap.size + 1 ≤ w2.heap.size := Nat.le_trans (Nat.le_of_eq HS.out.symm) HB3.out.size; (try have hz := (hb2.cell hg2).trans hz0); clear hb2)
    | (at_builtin; refine wpList_app1 rfl (.tmp 71) (.tmp 73) 67 rfl (w.heap.size + 1) 3 (.int .i64 0) 8 Tryz.underlying67 Tryz.infoInt rfl _ _ _ _ rfl HO.out rfl rfl (by unfold maxLen; omega) (by omega) hwz ?_)))
            (
  intro v' w4 hown4 hb4;
  have R : DeepR w W1 ns v' (.int .i64 ((((k + 1) : Nat) : Int) + 1)) w4 := ⟨(k + 1) + 1, (by rw [EN.out]; omega), rfl, hide (by rw [deepsTo, HE.out, EO.out]; simpa using hown4), HB3.out.trans (by rw [HS.out]; exact hb4)⟩;
  clear hown4 hb4;
  go_wp2;
  go_roundw)
            case rel => exact R
            case measure => simp [intOf]; omega
          · (go_wp2_with (first
    | (go_at_call 53; refine (unhide (C _ HN2.out)).mono ?_; rintro e w2 ⟨rfl, hb2⟩; have HB3 := hide (HB2.out.trans (hb2.mono HB2.out.size)); have HO := hide (ownsInts_stays HO.out hb2); have hwz : w.heap.size + 1 ≤ w2.heap.size := Nat.le_trans (Nat.le_of_eq HS.out.symm) HB3.out.size; (try have hz := (hb2.cell hg2).trans hz0); clear hb2)
    | (at_builtin; refine wpList_app1 rfl (.tmp 71) (.tmp 73) 67 rfl (w.heap.size + 1) 3 (.int .i64 0) 8 Tryz.underlying67 Tryz.infoInt rfl _ _ _ _ rfl HO.out rfl rfl (by unfold maxLen; omega) (by omega) hwz ?_)))
            (
  intro v' w4 hown4 hb4;
  have R : DeepR w W1 ns v' (.int .i64 ((((k + 1) : Nat) : Int) + 1)) w4 := ⟨(k + 1) + 1, (by rw [EN.out]; omega), rfl, hide (by rw [deepsTo, HE.out, EO.out]; simpa using hown4), HB3.out.trans (by rw [HS.out]; exact hb4)⟩;
  clear hown4 hb4;
  go_wp2;
  go_roundw)
            case rel => exact R
            case measure => simp [intOf]; omega
      | true =>
        have HA := hide (HA.out hnb)
        have HK : Hid (kidsDeep ns (deepsTo ns k) k = x.kids.foldl (kidDeep out) 1) := by show _ = _; rw [kidsDeep, HG.out, hnb, EO.out]; rfl
        rw [hnb] at C
        clear hnb
        obtain ⟨m, em⟩ : ∃ m, x.kids.length = m := ⟨_, rfl⟩
        have EM := hide em
        rw [em] at HKL
        have hm : m ≤ 1048576 := HKL.out
        clear em
        go_wp2_with (go_at_call 53; refine (unhide (C _ HN2.out)).mono ?_; rintro e w2 ⟨rfl, hb2⟩; have HB3 := hide (HB2.out.trans (hb2.mono HB2.out.size)); have HO := hide (ownsInts_stays HO.out hb2); have hwz : w.heap.size + 1 ≤ w2.heap.size := Nat.le_trans (Nat.le_of_eq HS.out.symm) HB3.out.size; have HN3 := hide (HN2.out.stays hb2); obtain ⟨f0, f1, f2, _⟩ := HX.out.stays HB3.out; clear hb2)
        clear c0 c1 c2
        go_loopw [5, 6] (DeepI w2 out x.kids) (fun _ iv _ => m - (intOf iv).toNat)
        case atStart => exact ⟨0, 1, by omega, rfl, rfl, rfl, by omega, by omega, rfl⟩
        case round =>
          obtain ⟨j, d, hj, rfl, rfl, HD, hd1, hd2, rfl⟩ := hrel
          rw [EM.out] at hj
          obtain ⟨a, cc, p, kv, e5, hpa, hpb, hnode⟩ := HN3.out.node k hkx
          injection e5 with e6 e7 e8
          subst e6
          have d5 := hnode.c5
          have hkr := hnode.kids
          rw [EX.out] at hkr
          obtain ⟨bo, cb, rfl, hkc⟩ := hkr
          rw [EM.out] at d5
          clear hnode e7 e8
          by_cases hlt2 : j < m
          · have hlt2' : (j : Int) < (m : Int) := by omega
            have hj0 : (0 : Int) ≤ (j : Int) := by omega
            have hjx : j < x.kids.length := by rw [EM.out]; exact hlt2
            obtain ⟨b, rfl, hbb, hy⟩ := hkc j hjx
            obtain ⟨hy0, hy1⟩ := HA.out j hjx
            have EJ : Hid ((x.kids.take (j + 1)).foldl (kidDeep out) 1 = kidDeep out d x.kids[j]) := by
              show _ = _
              rw [List.take_add_one, List.getElem?_eq_getElem hjx, List.foldl_append, HD.out]
              rfl
            obtain ⟨y, ey⟩ : ∃ y, x.kids[j] = y := ⟨_, rfl⟩
            rw [ey] at hy hy0 hy1 EJ
            clear ey hkc
            obtain ⟨t, et⟩ : ∃ t : Nat, y = (t : Int) := ⟨y.toNat, by omega⟩
            subst et
            obtain ⟨g, cap, rfl, hg1, hg2, hcell⟩ := ownsInts_form HO.out (by omega)
            have hz := hcell t (by omega)
            have hzi := hD.out t
            have EK : Hid (kidDeep out d (t : Int) = if d < out.getD t 0 + 1 then out.getD t 0 + 1 else d) := by show _ = _; rw [kidDeep]; rfl
            obtain ⟨z, ez⟩ : ∃ z, out.getD t 0 = z := ⟨_, rfl⟩
            rw [ez] at hz hzi EK
            obtain ⟨hz0, hz1⟩ := hzi
            clear ez hcell
            by_cases hq : d < z + 1
            · have EQ : Hid (z + 1 = (x.kids.take (j + 1)).foldl (kidDeep out) 1) := by show _ = _; rw [EJ.out, EK.out, if_pos hq]
              go_wp2
              go_roundw
              case rel => exact ⟨j + 1, z + 1, by rw [EM.out]; omega, by go_num, by go_num, EQ.out, by omega, by omega, rfl⟩
              case measure => simp [intOf]; omega
            · have EQ : Hid (d = (x.kids.take (j + 1)).foldl (kidDeep out) 1) := by show _ = _; rw [EJ.out, EK.out, if_neg hq]
              go_wp2
              go_roundw
              case rel => exact ⟨j + 1, d, by rw [EM.out]; omega, by go_num, rfl, EQ.out, by omega, by omega, rfl⟩
              case measure => simp [intOf]; omega
          · have hlt2' : ¬ (j : Int) < (m : Int) := by omega
            have HE0 : Hid (kidsDeep ns (deepsTo ns k) k = d) := by show _ = _; rw [HK.out, HD.out, List.take_of_length_le (by rw [EM.out]; omega)]
            have HE1 := hide (deep_end HE0.out)
            clear hkc HA
            by_cases hq : 10 < d
            · have HE : Hid (cutDeep (deepsTo ns k) k (kidsDeep ns (deepsTo ns k) k) = 0) := by show _ = _; rw [HE1.out, if_pos (.inl hq)]
              (go_wp2_with (first
    | (go_at_call 53; refine (unhide (C _ HN2.out)).mono ?_; rintro e w2 ⟨rfl, hb2⟩; have HB3 := hide (HB2.out.trans (hb2.mono HB2.out.size)); have HO := hide (ownsInts_stays HO.out hb2); have hwz : w.heap.size + 1 ≤ w2.heap.size := Nat.le_trans (Nat.le_of_eq HS.out.symm) HB3.out.size; (try have hz := (hb2.cell hg2).trans hz0); clear hb2)
    | (at_builtin; refine wpList_app1 rfl (.tmp 71) (.tmp 73) 67 rfl (w.heap.size + 1) 3 (.int .i64 0) 8 Tryz.underlying67 Tryz.infoInt rfl _ _ _ _ rfl HO.out rfl rfl (by unfold maxLen; omega) (by omega) hwz ?_)))
              (
  intro v' w4 hown4 hb4;
  have R : DeepR w W1 ns v' (.int .i64 (((k : Nat) : Int) + 1)) w4 := ⟨k + 1, (by rw [EN.out]; omega), rfl, hide (by rw [deepsTo, HE.out, EO.out]; simpa using hown4), HB3.out.trans (by rw [HS.out]; exact hb4)⟩;
  clear hown4 hb4;
  go_wp2;
  go_roundw)
              case rel => exact R
              case measure => simp [intOf]; omega
            · rcases k with _ | k
              · have HE : Hid (cutDeep (deepsTo ns 0) 0 (kidsDeep ns (deepsTo ns 0) 0) = d) := by show _ = _; rw [HE1.out, if_neg (by omega)]
                (go_wp2_with (first
    | (go_at_call 53; refine (unhide (C _ HN2.out)).mono ?_; rintro e w2 ⟨rfl, hb2⟩; have HB3 := hide (HB2.out.trans (hb2.mono HB2.out.size)); have HO := hide (ownsInts_stays HO.out hb2); have hwz : w.heap.size + 1 ≤ w2.heap.size := Nat.le_trans (Nat.le_of_eq HS.out.symm) HB3.out.size; (try have hz := (hb2.cell hg2).trans hz0); clear hb2)
    | (at_builtin; refine wpList_app1 rfl (.tmp 71) (.tmp 73) 67 rfl (w.heap.size + 1) 3 (.int .i64 0) 8 Tryz.underlying67 Tryz.infoInt rfl _ _ _ _ rfl HO.out rfl rfl (by unfold maxLen; omega) (by omega) hwz ?_)))
                (
  intro v' w4 hown4 hb4;
  have R : DeepR w W1 ns v' (.int .i64 (((0 : Nat) : Int) + 1)) w4 := ⟨0 + 1, (by rw [EN.out]; omega), rfl, hide (by rw [deepsTo, HE.out, EO.out]; simpa using hown4), HB3.out.trans (by rw [HS.out]; exact hb4)⟩;
  clear hown4 hb4;
  go_wp2;
  go_roundw)
                case rel => exact R
                case measure => simp [intOf]; omega
              · obtain ⟨g, cap, rfl, hg1, hg2, hcell⟩ := ownsInts_form HO.out (Nat.succ_pos k)
                have hz0 := hcell k (Nat.lt_succ_self k)
                rw [EO.out] at HE1
                have HE1 : Hid (_ = if 10 < d ∨ (0 < k + 1 ∧ out.getD k 0 = 0) then 0 else d) := HE1
                obtain ⟨z, ez⟩ : ∃ z, out.getD k 0 = z := ⟨_, rfl⟩
                rw [ez] at hz0 HE1
                clear ez hcell
                by_cases hz1 : z = 0
                · have HE : Hid (cutDeep (deepsTo ns (k + 1)) (k + 1) (kidsDeep ns (deepsTo ns (k + 1)) (k + 1)) = 0) := by show _ = _; rw [EO.out, HE1.out, if_pos (.inr ⟨by omega, hz1⟩)]
                  subst hz1
                  (go_wp2_with (first
    | (go_at_call 53; refine (unhide (C _ HN2.out)).mono ?_; rintro e w2 ⟨rfl, hb2⟩; have HB3 := hide (HB2.out.trans (hb2.mono HB2.out.size)); have HO := hide (ownsInts_stays HO.out hb2); have hwz : w.heap.size + 1 ≤ w2.heap.size := Nat.le_trans (Nat.le_of_eq HS.out.symm) HB3.out.size; (try have hz := (hb2.cell hg2).trans hz0); clear hb2)
    | (at_builtin; refine wpList_app1 rfl (.tmp 71) (.tmp 73) 67 rfl (w.heap.size + 1) 3 (.int .i64 0) 8 Tryz.underlying67 Tryz.infoInt rfl _ _ _ _ rfl HO.out rfl rfl (by unfold maxLen; omega) (by omega) hwz ?_)))
                  (
  intro v' w4 hown4 hb4;
  have R : DeepR w W1 ns v' (.int .i64 ((((k + 1) : Nat) : Int) + 1)) w4 := ⟨(k + 1) + 1, (by rw [EN.out]; omega), rfl, hide (by rw [deepsTo, HE.out, EO.out]; simpa using hown4), HB3.out.trans (by rw [HS.out]; exact hb4)⟩;
  clear hown4 hb4;
  go_wp2;
  go_roundw)
                  case rel => exact R
                  case measure => simp [intOf]; omega
                · have HE : Hid (cutDeep (deepsTo ns (k + 1)) (k + 1) (kidsDeep ns (deepsTo ns (k + 1)) (k + 1)) = d) := by show _ = _; rw [EO.out, HE1.out, if_neg (by omega)]
                  (go_wp2_with (first
    | (go_at_call 53; refine (unhide (C _ HN2.out)).mono ?_; rintro e w2 ⟨rfl, hb2⟩; have HB3 := hide (HB2.out.trans (hb2.mono HB2.out.size)); have HO := hide (ownsInts_stays HO.out hb2); have hwz : w.heap.size + 1 ≤ w2.heap.size := Nat.le_trans (Nat.le_of_eq HS.out.symm) HB3.out.size; (try have hz := (hb2.cell hg2).trans hz0); clear hb2)
    | (at_builtin; refine wpList_app1 rfl (.tmp 71) (.tmp 73) 67 rfl (w.heap.size + 1) 3 (.int .i64 0) 8 Tryz.underlying67 Tryz.infoInt rfl _ _ _ _ rfl HO.out rfl rfl (by unfold maxLen; omega) (by omega) hwz ?_)))
                  (
  intro v' w4 hown4 hb4;
  have R : DeepR w W1 ns v' (.int .i64 ((((k + 1) : Nat) : Int) + 1)) w4 := ⟨(k + 1) + 1, (by rw [EN.out]; omega), rfl, hide (by rw [deepsTo, HE.out, EO.out]; simpa using hown4), HB3.out.trans (by rw [HS.out]; exact hb4)⟩;
  clear hown4 hb4;
  go_wp2;
  go_roundw)
                  case rel => exact R
                  case measure => simp [intOf]; omega
    · have hlt' : ¬ (k : Int) < (n : Int) := by omega
      have ei : k = n := by omega
      subst ei
      go_wp2
      go_ret
      exact ⟨_, rfl, by rw [EN.out]; exact HO.out, HB.out.trans (HB2.out.mono HB.out.size)⟩
end Go.Proofs.YtdfahpachbhglaaGreatDoor

namespace Go.Proofs.YtdfahpachbhglaaGreatDoor
open Go.RowKit

/-- Is there a right node at a place? -/
def nodeAt (ns : List Nd) (k : Int) : Bool := inZ 0 ((ns.length : Int) - 1) k && nodeB (ns.getD k.toNat default) (kinds ns k.toNat)

set_option maxHeartbeats 1000000 in
theorem specNodeOk_any (nv mv pv : Value) (ns : List Nd) (k : Int) (w : World) (hN : NdsAt w nv ns) (hl : ns.length ≤ 1048576) (hin : NsIn ns) :
    Calls Tryz.prog 53 #[.agg #[nv, mv, pv], .int .i64 k] w fun e w' => e = .returned (.bool (nodeAt ns k)) ∧ Below w.heap.size w w' := by
  cases h : inZ 0 ((ns.length : Int) - 1) k with
  | true =>
    obtain ⟨h0, h1⟩ := inZ_yes.1 h
    obtain ⟨j, rfl⟩ : ∃ j : Nat, k = (j : Int) := ⟨k.toNat, by omega⟩
    have hj : j < ns.length := by omega
    have hi := hin _ (List.getElem_mem hj)
    have e : nodeAt ns (j : Int) = nodeB ns[j] (kinds ns j) := by
      rw [nodeAt, h, Int.toNat_natCast, getD_at hj]
      rfl
    rw [e]
    exact specNodeOk_in nv mv pv ns j w hN hj hl hi.1 hi.2.1 hi.2.2.1 hi.2.2.2
  | false =>
    have HF : Hid (nodeAt ns k = false) := by show _ = _; rw [nodeAt, h]; rfl
    have C := fun w => hide (l01In_gen k 0 ((ns.length : Int) - 1) w)
    rw [h] at C
    have HB : Hid (Below w.heap.size w (w.alloc (.cells #[nv, mv, pv] 34))) := (Below.refl _ _).alloc (Nat.le_refl _) _
    obtain ⟨ao, c, rfl, _⟩ := hN
    clear h hin
    go_enter Tryz.func53, Tryz.ntmps53
    go_wp2_with (go_at_call 30; refine (unhide (C _)).mono ?_; rintro e w1 ⟨rfl, rfl⟩)
    go_ret
    exact ⟨by rw [HF.out]; rfl, HB.out⟩
end Go.Proofs.YtdfahpachbhglaaGreatDoor
