/-
  Walks: how deep a node is, by the program, where all nodes are right.
-/
import Derived.Test.YtenhmecbebibkaaGreatLawN
import Derived.Test.YtenhmecbebibkaaGreatTreeU
import Derived.Test.YtenhmecbebibkaaGreatLawE
import Derived.Test.YtenhmecbebibkaaGreatImpB
import Derived.Test.YtenhmecbebibkaaGreatImpI
namespace Go.Proofs.YtenhmecbebibkaaGreat
open Go.RowKit

/-- Behind a node without a depth none has one. -/
theorem deep_zero {ns : List Nd} {i : Nat} (h : (deepsTo ns (i + 1)).getD i 0 = 0) : ∀ m, i ≤ m → (deepsTo ns (m + 1)).getD m 0 = 0
  | 0, hm => by
    have : i = 0 := by omega
    subst this
    exact h
  | m + 1, hm => by
    rcases Nat.lt_or_ge m i with h1 | h1
    · have : i = m + 1 := by omega
      subst this
      exact h
    · have h2 := deep_zero h m h1
      rw [deepsTo_at ns (m + 1 + 1) (Nat.lt_succ_self _), cutDeep, if_pos (.inr ⟨Nat.succ_pos _, by rw [Nat.add_sub_cancel]; exact h2⟩)]
def mxDeep (out : List Int) (d x : Int) : Int := if d < out.getD x.toNat 0 then out.getD x.toNat 0 else d
theorem mx_kid (out : List Int) : ∀ (ks : List Int) (d : Int), ks.foldl (kidDeep out) (d + 1) = ks.foldl (mxDeep out) d + 1
  | [], _ => rfl
  | x :: ks, d => by
    have e : kidDeep out (d + 1) x = mxDeep out d x + 1 := by
      unfold kidDeep mxDeep
      split <;> split <;> omega
    rw [List.foldl_cons, List.foldl_cons, e, mx_kid out ks]
theorem mx_in {out : List Int} (h : Deeps out) : ∀ (ks : List Int) (d : Int), 0 ≤ d ∧ d ≤ 10 → 0 ≤ ks.foldl (mxDeep out) d ∧ ks.foldl (mxDeep out) d ≤ 10
  | [], _, hd => hd
  | x :: ks, d, hd => by
    rw [List.foldl_cons]
    refine mx_in h ks _ ?_
    have := h x.toNat
    unfold mxDeep
    split <;> omega
theorem deep_next {ns : List Nd} {i : Nat} (hi : i < ns.length) (hn : nodeB ns[i] (kinds ns i) = true) (hA : ∀ j, j < i → 1 ≤ (deepsTo ns i).getD j 0) :
    cutDeep (deepsTo ns i) i (kidsDeep ns (deepsTo ns i) i) = if ns[i].kids.foldl (mxDeep (deepsTo ns i)) 0 = 10 then 0 else ns[i].kids.foldl (mxDeep (deepsTo ns i)) 0 + 1 := by
  have h1 : kidsDeep ns (deepsTo ns i) i = ns[i].kids.foldl (mxDeep (deepsTo ns i)) 0 + 1 := by
    rw [kidsDeep, getD_at hi, hn, ← mx_kid]
    rfl
  have h2 := mx_in (deepsTo_in ns i) ns[i].kids 0 (by omega)
  rw [h1, cutDeep]
  have h3 : ¬ (0 < i ∧ (deepsTo ns i).getD (i - 1) 0 = 0) := fun h => by
    have := hA (i - 1) (by omega)
    omega
  by_cases h4 : ns[i].kids.foldl (mxDeep (deepsTo ns i)) 0 = 10
  · rw [if_pos h4, if_pos (.inl (by omega))]
  · rw [if_neg h4, if_neg (by omega)]

def DpR (base : Nat) (W1 : World) (ns : List Nd) (n : Nat) (v iv : Value) (wr : World) : Prop :=
  ∃ i : Nat, i ≤ n ∧ iv = .int .i64 i ∧ Hid (wr.ownsRow base 3 1 v i ((deepsTo ns i).map I64)) ∧ Hid (Below W1.heap.size W1 wr) ∧ Hid (∀ j, j < i → 1 ≤ (deepsTo ns i).getD j 0)
def DpI (w2 : World) (out ks : List Int) (dv iv : Value) (wr : World) : Prop :=
  ∃ (j : Nat) (d : Int), j ≤ ks.length ∧ iv = .int .i64 j ∧ dv = .int .i64 d ∧ Hid (d = (ks.take j).foldl (mxDeep out) 0) ∧ 0 ≤ d ∧ d ≤ 10 ∧ wr = w2

set_option maxRecDepth 100000 in
set_option maxHeartbeats 4000000 in
theorem deepOf_in (nv mv pv : Value) (ns : List Nd) (k : Nat) (w : World) (hN : NdsAt w nv ns) (hR : NdsRoom w nv ns.length) (hk : k < ns.length) (hl : ns.length ≤ 1048576) (hkx : ∀ x ∈ ns, x.kids.length ≤ 1048576) (hall : ∀ (j : Nat) (hj : j < ns.length), nodeB ns[j] (kinds ns j) = true) :
    Calls Tryz.prog 72 #[.agg #[nv, mv, pv], .int .i64 (k : Int)] w fun e w' => e = .returned (.int .i64 ((deepsTo ns (k + 1)).getD k 0)) ∧ Below w.heap.size w w' := by
  have hb1 : Below w.heap.size w (w.alloc (.cells #[nv, mv, pv] 33)) := (Below.refl _ _).alloc (Nat.le_refl _) _
  have CH := fun w h => hide (has_any nv mv pv ns (k : Int) w h)
  have e1 : inZ 0 ((ns.length : Int) - 1) (k : Int) = true := inZ_yes.2 (by omega)
  rw [e1] at CH
  have HN := hide (hN.stays hb1)
  have HX := hide (Boxed.made w nv mv pv 33)
  have HB := hide hb1
  have HS : Hid ((w.alloc (.cells #[nv, mv, pv] 33)).heap.size = w.heap.size + 1) := by show _ = _; simp
  have HALL := hide hall
  have HKX := hide hkx
  clear hb1 e1 hall hkx
  obtain ⟨ao, c, rfl, hro⟩ := hN
  have hcap : ns.length ≤ c := by
    obtain ⟨ao2, c2, e2, h2, _⟩ := hR
    injection e2 with _ _ e4
    omega
  clear hR
  obtain ⟨a0, rfl⟩ : ∃ a0, ao = some a0 := by
    obtain ⟨a, _, h, _⟩ := hro k hk
    exact ⟨a, h⟩
  clear hro
  obtain ⟨n, en⟩ : ∃ n, ns.length = n := ⟨_, rfl⟩
  have EN := hide en
  simp only [en] at HN HX HB HS CH hl hcap hk ⊢
  clear en
  have hk0 : (0 : Int) ≤ (k : Int) := by omega
  have hk1 : (k : Int) < (n : Int) := by omega
  have hkc : ((k : Int) + 1) ≤ (c : Int) := by omega
  have hkc0 : (0 : Int) ≤ (k : Int) + 1 := by omega
  have htn : ((k : Int) + 1).toNat = k + 1 := by omega
  go_enter Tryz.func72, Tryz.ntmps72
  go_wp2_with fail
  obtain ⟨W1, hW⟩ : ∃ W1, w.alloc (.cells #[.slice (some a0) n c, mv, pv] 33) = W1 := ⟨_, rfl⟩
  rw [hW] at HN HX HB HS ⊢
  clear hW
  refine (unhide (CH _ HN.out)).mono ?_
  rintro e w1 ⟨rfl, hb2⟩
  have HB1 := hide hb2
  obtain ⟨c0, c1, c2, _⟩ := HX.out.stays hb2
  clear hb2 CH
  go_wp2
  have hw1z : w.heap.size + 1 ≤ w1.heap.size := by rw [← HS.out]; exact HB1.out.size
  go_loopw [5, 22] (DpR (w.heap.size + 1) W1 ns (k + 1)) (fun _ iv _ => k + 1 - (intOf iv).toNat)
  case atStart => exact ⟨0, by omega, rfl, ownsRow_empty w1 (w.heap.size + 1) 3 hw1z, HB1.out.alloc HB1.out.size _, fun j hj => absurd hj (Nat.not_lt_zero j)⟩
  case round =>
    clear c0 c1 c2
    obtain ⟨i, hi, rfl, HO, HB2, HA⟩ := hrel
    by_cases hlt : i < k + 1
    · have hlt' : (i : Int) < (k : Int) + 1 := by omega
      have hi0 : (0 : Int) ≤ (i : Int) := by omega
      have hin : (i : Int) < (n : Int) := by omega
      have hix : i < ns.length := by rw [EN.out]; omega
      have HNX := hide (deep_next hix (HALL.out i hix) HA.out)
      have HAH := hide (nodeB_ahead hix (HALL.out i hix))
      have HKL := hide (HKX.out _ (List.getElem_mem hix))
      obtain ⟨a', cc', p, kv, e5, hpa, hpb, hnode⟩ := HN.out.node i hix
      injection e5 with e6 e7 e8
      cases e6
      have HKI := hide hnode.kids
      have hnode2 := hnode.stays HB2.out hpb
      obtain ⟨x, ex⟩ : ∃ x, ns[i] = x := ⟨_, rfl⟩
      have HAX : Hid (∀ (t : Nat) (ht : t < x.kids.length), 0 ≤ x.kids[t] ∧ x.kids[t] < (i : Int)) := by rw [← ex]; exact HAH.out
      rw [ex] at HNX HKL hnode2 HKI
      obtain ⟨d0, d1, d2, d3, d4, d5, hkids⟩ := hnode2
      obtain ⟨ko, kc, rfl, _⟩ := hkids
      obtain ⟨kl, ekl⟩ : ∃ kl, x.kids.length = kl := ⟨_, rfl⟩
      have EKL := hide ekl
      have hklb : kl ≤ 1048576 := by rw [← ekl]; exact HKL.out
      rw [ekl] at d5 HKI
      clear ex ekl e7 e8 hnode HAH
      obtain ⟨out, eo⟩ : ∃ out, deepsTo ns i = out := ⟨_, rfl⟩
      have EO := hide eo
      have HDP : Hid (Deeps out) := by rw [← eo]; exact deepsTo_in ns i
      have HLO : Hid (out.length = i) := by rw [← eo]; exact deepsTo_len ns i
      have HSC : Hid (deepsTo ns (i + 1) = out ++ [cutDeep out i (kidsDeep ns out i)]) := by show _ = _; rw [deepsTo, eo]
      rw [eo] at HO HNX HA
      clear eo
      have HO4 := hide (HO.out.alloc (.cells #[.int .i64 x.kind, .int .i64 x.num, .string x.name, .string x.more, .string x.into, .slice ko kl kc] 79))
      have HB4 : Hid (Below W1.heap.size W1 (wr.alloc (.cells #[.int .i64 x.kind, .int .i64 x.num, .string x.name, .string x.more, .string x.into, .slice ko kl kc] 79))) := HB2.out.alloc HB2.out.size _
      go_wp2
      obtain ⟨W4, hW4⟩ : ∃ W4, wr.alloc (.cells #[.int .i64 x.kind, .int .i64 x.num, .string x.name, .string x.more, .string x.into, .slice ko kl kc] 79) = W4 := ⟨_, rfl⟩
      rw [hW4] at HO4 HB4 ⊢
      clear hW4 d0 d1 d2 d3 d4 d5
      go_loopw [8, 30] (DpI W4 out x.kids) (fun _ iv _ => kl - (intOf iv).toNat)
      case atStart => exact ⟨0, 0, by omega, rfl, rfl, rfl, by omega, by omega, rfl⟩
      case round =>
        obtain ⟨j, d, hj, rfl, rfl, HD, hd1, hd2, rfl⟩ := hrel
        rw [EKL.out] at hj
        by_cases hltj : j < kl
        · have hltj' : (j : Int) < (kl : Int) := by omega
          have hj0 : (0 : Int) ≤ (j : Int) := by omega
          have hjx : j < x.kids.length := by rw [EKL.out]; exact hltj
          obtain ⟨ko', kc', e5, hkc⟩ := HKI.out.stays HB4.out
          injection e5 with e6 e7 e8
          subst e6
          obtain ⟨b, rfl, _, hy⟩ := hkc j hjx
          obtain ⟨hy0, hy1⟩ := HAX.out j hjx
          have EJ : Hid ((x.kids.take (j + 1)).foldl (mxDeep out) 0 = mxDeep out d x.kids[j]) := by
            show _ = _
            rw [List.take_add_one, List.getElem?_eq_getElem hjx, List.foldl_append, HD.out]
            rfl
          obtain ⟨y, ey⟩ : ∃ y, x.kids[j] = y := ⟨_, rfl⟩
          rw [ey] at hy hy0 hy1 EJ
          clear ey hkc e7 e8
          obtain ⟨t, et⟩ : ∃ t : Nat, y = (t : Int) := ⟨y.toNat, by omega⟩
          subst et
          obtain ⟨g, cap, rfl, hg1, hg2, hcell⟩ := ownsInts_form HO4.out (by omega)
          have hz := hcell t (by omega)
          have hzi := HDP.out t
          have EK : Hid (mxDeep out d (t : Int) = if d < out.getD t 0 then out.getD t 0 else d) := by show _ = _; rw [mxDeep]; rfl
          obtain ⟨z, ez⟩ : ∃ z, out.getD t 0 = z := ⟨_, rfl⟩
          rw [ez] at hz hzi EK
          clear ez hcell
          have hyl : ¬ (t : Int) < 0 := by omega
          have hyk : ¬ (i : Int) ≤ (t : Int) := by omega
          have hti : (t : Int) < (i : Int) := by omega
          have ht0 : (0 : Int) ≤ (t : Int) := by omega
          by_cases hdz : d < z
          · have hE : Hid (z = (x.kids.take (j + 1)).foldl (mxDeep out) 0) := by show _ = _; rw [EJ.out, EK.out, if_pos hdz]
            go_wp2
            go_roundw
            case rel => exact ⟨j + 1, z, by rw [EKL.out]; omega, by go_num, by first | rfl | (congr 1; omega), hE.out, by omega, by omega, rfl⟩
            case measure => simp [intOf]; omega
          · have hE : Hid (d = (x.kids.take (j + 1)).foldl (mxDeep out) 0) := by show _ = _; rw [EJ.out, EK.out, if_neg hdz]
            go_wp2
            go_roundw
            case rel => exact ⟨j + 1, d, by rw [EKL.out]; omega, by go_num, by first | rfl | (congr 1; omega), hE.out, by omega, by omega, rfl⟩
            case measure => simp [intOf]; omega
        · have hltj' : ¬ (j : Int) < (kl : Int) := by omega
          have HE : Hid (x.kids.foldl (mxDeep out) 0 = d) := by
            have h := HD.out
            rw [List.take_of_length_le (by rw [EKL.out]; omega)] at h
            exact h.symm
          rw [HE.out] at HNX
          by_cases hd10 : d = 10
          · subst hd10
            have HZ : Hid ((deepsTo ns (k + 1)).getD k 0 = 0) := by
              refine deep_zero (i := i) ?_ k (by omega)
              rw [deepsTo_at ns (i + 1) (Nat.lt_succ_self _), EO.out, HNX.out]
              rfl
            go_wp2
            go_ret
            exact ⟨by rw [← List.getD_eq_getElem?_getD, HZ.out]; rfl, HB.out.trans (HB4.out.mono HB.out.size)⟩
          · have HC : Hid (cutDeep out i (kidsDeep ns out i) = d + 1) := by show _ = _; rw [HNX.out, if_neg hd10]
            rw [HC.out] at HSC
            have hwz : w.heap.size + 1 ≤ wr.heap.size := by rw [← HS.out]; exact HB4.out.size
            go_wp2_with (at_builtin; refine wpList_app1 rfl (.tmp 50) (.tmp 53) 50 rfl (w.heap.size + 1) 3 (.int .i64 0) 8 Tryz.underlying50 Tryz.infoInt rfl _ _ _ _ rfl HO4.out rfl rfl (by unfold maxLen; omega) (by omega) hwz ?_)
            intro v' w5 hown5 hb5
            have R : DpR (w.heap.size + 1) W1 ns (k + 1) v' (.int .i64 ((i : Int) + 1)) w5 := ⟨i + 1, by omega, rfl, hide (by rw [HSC.out]; simpa using hown5), HB4.out.trans (by rw [HS.out]; exact hb5), fun t ht => by
              rw [HSC.out]
              rcases Nat.lt_succ_iff_lt_or_eq.1 ht with h | h
              · have e : (out ++ [d + 1]).getD t 0 = out.getD t 0 := by
                  simp [List.getD_eq_getElem?_getD, List.getElem?_append_left (show t < out.length by rw [HLO.out]; exact h)]
                rw [e]
                exact HA.out t h
              · subst h
                have e : (out ++ [d + 1]).getD t 0 = d + 1 := by
                  simp [List.getD_eq_getElem?_getD, HLO.out]
                rw [e]
                omega⟩
            clear hown5 hb5
            go_wp2
            go_roundw
            case rel => exact R
            case measure => simp [intOf]; omega
    · have hlt' : ¬ (i : Int) < (k : Int) + 1 := by omega
      have ei : i = k + 1 := by omega
      subst ei
      obtain ⟨g, cap, rfl, hg1, hg2, hcell⟩ := ownsInts_form HO.out (by omega)
      have hz := hcell k (by omega)
      obtain ⟨z, ez⟩ : ∃ z, (deepsTo ns (k + 1)).getD k 0 = z := ⟨_, rfl⟩
      have EZ := hide ez
      rw [ez] at hz
      clear ez hcell
      have hkk : (k : Int) < (k : Int) + 1 := by omega
      go_wp2
      go_ret
      exact ⟨by rw [← List.getD_eq_getElem?_getD, EZ.out]; rfl, HB.out.trans (HB2.out.mono HB.out.size)⟩
end Go.Proofs.YtenhmecbebibkaaGreat

namespace Go.Proofs.YtenhmecbebibkaaGreat
open Go.RowKit

def UsD (W1 : World) (ns : List Nd) (bv : Value) (bs : List Int) (iv : Value) (wr : World) : Prop := ∃ k : Nat, k ≤ ns.length ∧ iv = .int .i64 k ∧ Hid (CntS W1 ns.length bv bs (bs ++ allKids (ns.take k)) wr)
def UsE (W1 : World) (n : Nat) (bv : Value) (bs u : List Int) (iv : Value) (wr : World) : Prop := ∃ k : Nat, k ≤ n ∧ iv = .int .i64 k ∧ Hid (CntS W1 n bv bs u wr) ∧ Hid (∀ (j : Nat) (y : Int), j < k → (cnt n u)[j]? = some y → decide (y = 1) = true)

set_option maxRecDepth 100000 in
set_option maxHeartbeats 4000000 in
theorem ownedOnce_any (nv mv pv : Value) (ns : List Nd) (ms : List Mo) (ps : List Pr) (w : World) (hN : NdsAt w nv ns) (hM : MosAt w mv ms) (hP : PrsAt w pv ps) (hl : ns.length ≤ 1048576) (hbl : (bodiesL ms ps).length ≤ 1048576) (hml : ms.length ≤ 1048576) (hpl : ps.length ≤ 1048576) (hel : ∀ m ∈ ms, m.ents.length ≤ 1048576)
    (hkl : (allKids ns).length ≤ 1048576) (hkx : ∀ x ∈ ns, x.kids.length ≤ 1048576) (hK : ∀ x ∈ ns, ∀ y ∈ x.kids, 0 ≤ y ∧ y < (ns.length : Int)) :
    Calls Tryz.prog 48 #[.agg #[nv, mv, pv]] w fun e w' => e = .returned (.bool ((bodiesL ms ps).all (standQ ns 3) && onceB ns.length (bodiesL ms ps ++ allKids ns))) ∧ Below w.heap.size w w' := by
  have hb1 : Below w.heap.size w (w.alloc (.cells #[nv, mv, pv] 33)) := (Below.refl _ _).alloc (Nat.le_refl _) _
  have HN := hide (hN.stays hb1)
  have HM := hide (hM.stays hb1)
  have HP := hide (hP.stays hb1)
  have HX := hide (Boxed.made w nv mv pv 33)
  have HB := hide hb1
  have HS : Hid ((w.alloc (.cells #[nv, mv, pv] 33)).heap.size = w.heap.size + 1) := by show _ = _; simp
  have CB := fun w h1 h2 => hide (bodies_any nv mv pv ms ps w h1 h2 hbl hml hpl hel)
  have CS := fun v w h1 h2 => hide (stand_any nv mv pv v ns 3 (bodiesL ms ps) w h1 h2 hl hbl)
  clear hb1 hel hml hpl
  obtain ⟨ao, c, rfl, _⟩ := hN
  obtain ⟨mo, mc, rfl, _⟩ := hM
  obtain ⟨po, pc, rfl, _⟩ := hP
  obtain ⟨n, en⟩ : ∃ n, ns.length = n := ⟨_, rfl⟩
  have EN := hide en
  have HKX := hide hkx
  have HK := hide hK
  have HKL := hide hkl
  simp only [en] at HN HM HP HX HB HS CB CS hl HK ⊢
  clear en hkx hK hkl
  have HSQ : Hid (∀ b ∈ bodiesL ms ps, standQ ns 3 b = true → 0 ≤ b ∧ b < (n : Int)) := fun b _ hq => by
    rw [standQ, Bool.and_eq_true, EN.out] at hq
    have := inZ_yes.1 hq.1
    omega
  obtain ⟨bs, ebs⟩ : ∃ bs, bodiesL ms ps = bs := ⟨_, rfl⟩
  simp only [ebs] at CB CS hbl HSQ ⊢
  clear ebs
  obtain ⟨st, est⟩ : ∃ st, bs.all (standQ ns 3) = st := ⟨_, rfl⟩
  have EST := hide est
  simp only [est] at CS ⊢
  clear est
  obtain ⟨W1, hW⟩ : ∃ W1, w.alloc (.cells #[.slice ao n c, .slice mo ms.length mc, .slice po ps.length pc] 33) = W1 := ⟨_, rfl⟩
  obtain ⟨i0, hi, hz0, hz1, hz2⟩ := info_parts (Tryz.infoInt)
  obtain ⟨wm, hmk, hown, hgr⟩ := run_make_full (P := Tryz.prog) W1 W1.heap.size 50 3 i0 (.int .i64 0) 1 Tryz.underlying50 hi hz0 hz1 .i64 .i64 n (by rw [hz2]; omega) (by unfold maxLen; omega) (Nat.le_refl _)
  rw [hW] at HN HM HP HX HB HS
  have OW : Hid (wm.ownsRow W1.heap.size 3 1 (.slice (some ⟨W1.heap.size, 0, none⟩) n n) n ((cnt n []).map I64)) := by
    have e := made_flat [.int .i64 0] (by decide) n
    simp only [List.length_singleton] at e
    have e2 : (cnt n []).map I64 = (List.replicate n [Value.int .i64 0]).flatten := by
      rw [cnt_nil, List.map_replicate]
      exact (flat_one n).symm
    rw [e2, ← e]
    exact hown
  have GB : Hid (Below W1.heap.size W1 wm) := (Below.refl _ _).grown hgr (Nat.le_refl _) (fun k hk => by cases hk)
  rw [HS.out, ← hW] at hmk
  have HWW := hide hW
  clear hown hgr hi hz0 hz1 hz2 hW
  go_enter Tryz.func48, Tryz.ntmps48
  obtain ⟨c0, c1, c2, hlt0⟩ := HX.out.stays GB.out
  go_wp2_with fail
  refine (unhide (CB _ (HM.out.stays GB.out) (HP.out.stays GB.out))).mono ?_
  rintro e w2 ⟨bv, rfl, hown2, hb2⟩
  have ZM : Hid (W1.heap.size < wm.heap.size) := (OW.out.lt _ rfl).2
  have HC : Hid (CntS W1 n bv bs [] w2) := ⟨ownsInts_stays OW.out hb2, GB.out.trans (hb2.mono GB.out.size), (CellsIn.own hown2).mono (by have := ZM.out; omega)⟩
  obtain ⟨bo, bn, bc, ebv⟩ : ∃ bo bn bc, bv = .slice bo bn bc := by
    obtain ⟨o, c, e, _⟩ := HC.out.row
    exact ⟨_, _, _, e⟩
  have hbn : bn = bs.length := by
    obtain ⟨o, c, e, _⟩ := HC.out.row
    rw [ebv] at e
    injection e with _ e _
    rw [e, List.length_map]
  subst ebv
  subst hbn
  clear hb2 hown2 c0 c1 c2 hlt0 CB OW hmk
  rw [← HS.out]
  obtain ⟨c0, c1, c2, _⟩ := HX.out.stays HC.out.bel
  go_wp2_with fail
  refine (unhide (CS _ _ (HN.out.stays HC.out.bel) HC.out.row.at)).mono ?_
  rintro e w3 ⟨rfl, hb3⟩
  have HC3 := hide (HC.out.stays hb3)
  clear hb3 HC c0 c1 c2 CS
  obtain ⟨c0, c1, c2, _⟩ := HX.out.stays HC3.out.bel
  cases st with
  | false =>
    go_wp2
    go_ret
    exact ⟨rfl, HB.out.trans (HC3.out.bel.mono (by rw [HS.out]; omega))⟩
  | true =>
    have HBI : Hid (∀ b ∈ bs, 0 ≤ b ∧ b < (n : Int)) := fun b hb => HSQ.out b hb (List.all_eq_true.1 EST.out b hb)
    clear HSQ
    obtain ⟨m, em⟩ : ∃ m, bs.length = m := ⟨_, rfl⟩
    have EM := hide em
    rw [em] at HC3 hbl ⊢
    clear em
    go_wp2
    go_loopw [25] (UsA W1 n (.slice bo m bc) bs) (fun iv _ => m - (intOf iv).toNat)
    case atStart => exact ⟨0, by omega, rfl, HC3.out⟩
    case round =>
      clear c0 c1 c2
      obtain ⟨i, hi, rfl, HF⟩ := hrel
      rw [EM.out] at hi
      obtain ⟨c0, c1, c2, _⟩ := HX.out.stays HF.out.bel
      by_cases hlt : i < m
      · have hlt' : (i : Int) < (m : Int) := by omega
        have hi0 : (0 : Int) ≤ (i : Int) := by omega
        have hix : i < bs.length := by rw [EM.out]; exact hlt
        obtain ⟨bo', bc', e1, hc1⟩ := HF.out.row.at
        injection e1 with e2 e3 e4
        subst e2
        obtain ⟨b, rfl, _, hx⟩ := hc1 i hix
        have HT : Hid (bs.take (i + 1) = bs.take i ++ [bs[i]]) := List.take_succ_eq_append_getElem hix
        obtain ⟨hy0, hy1⟩ := HBI.out _ (List.getElem_mem hix)
        obtain ⟨y, ey⟩ : ∃ y, bs[i] = y := ⟨_, rfl⟩
        rw [ey] at hx HT hy0 hy1
        obtain ⟨t, ht⟩ : ∃ t : Nat, y = (t : Int) := ⟨y.toNat, by omega⟩
        subst ht
        clear ey hc1 e3 e4
        have htn : t < n := by omega
        obtain ⟨k0, f0⟩ := ownsCnt_cell HF.out.own htn
        have hle := cnt_le (n := n) (bs.take i) htn
        rw [List.length_take] at hle
        have HST := hide (HF.out.step htn)
        obtain ⟨q, eq⟩ : ∃ q, (cnt n (bs.take i)).getD t 0 = q := ⟨_, rfl⟩
        rw [eq] at k0 hle HST
        have hq0 : 0 ≤ q := hle.1
        have hq1 : q ≤ 1048576 := by omega
        clear eq hle
        go_wp2
        go_roundw
        case rel => exact ⟨i + 1, by rw [EM.out]; omega, by go_num, by rw [HT.out]; exact HST.out⟩
        case measure => simp [intOf]; omega
      · have hlt' : ¬ (i : Int) < (m : Int) := by omega
        have HD : Hid (CntS W1 n (.slice bo m bc) bs (bs ++ allKids (ns.take 0)) wr) := by
          have h := HF.out
          rw [List.take_of_length_le (by rw [EM.out]; omega)] at h
          have e : bs ++ allKids (ns.take 0) = bs := by simp [allKids]
          rw [e]
          exact h
        clear HF
        go_wp2
        go_loopw [39] (fun iv wr => UsB W1 ns (.slice bo m bc) bs iv wr) (fun iv _ => n - (intOf iv).toNat)
        case atStart => exact ⟨0, by omega, rfl, by rw [EN.out]; exact HD.out⟩
        case round =>
          clear c0 c1 c2
          obtain ⟨k, hk, rfl, HF2⟩ := hrel
          rw [EN.out] at hk HF2
          obtain ⟨c0, c1, c2, _⟩ := HX.out.stays HF2.out.bel
          by_cases hltk : k < n
          · have hltk' : (k : Int) < (n : Int) := by omega
            have hk0 : (0 : Int) ≤ (k : Int) := by omega
            have hkx : k < ns.length := by rw [EN.out]; exact hltk
            have HKT := hide (allKids_take hkx)
            have HKK := hide (HK.out _ (List.getElem_mem hkx))
            have HKN := hide (HKX.out _ (List.getElem_mem hkx))
            have HLT : Hid (bs.length + (allKids (ns.take k)).length + ns[k].kids.length ≤ 2097152) := by
              have h1 := allKids_len_take ns (k + 1)
              rw [allKids_take hkx, List.length_append] at h1
              have h2 := HKL.out
              show _ ≤ _
              rw [EM.out]
              omega
            obtain ⟨a', cc', p, kv, e5, hpa, hpb, hnode⟩ := HN.out.node k hkx
            injection e5 with e6 e7 e8
            subst e6
            have HKI := hide hnode.kids
            have hnode2 := hnode.stays HF2.out.bel hpb
            obtain ⟨x, ex⟩ : ∃ x, ns[k] = x := ⟨_, rfl⟩
            rw [ex] at HKT HKK HKN HLT hnode2 HKI
            obtain ⟨d0, d1, d2, d3, d4, d5, hkids⟩ := hnode2
            obtain ⟨ko, kc, rfl, _⟩ := hkids
            obtain ⟨kl, ekl⟩ : ∃ kl, x.kids.length = kl := ⟨_, rfl⟩
            have EKL := hide ekl
            have hklb : kl ≤ 1048576 := by rw [← ekl]; exact HKN.out
            rw [ekl] at d5 HKI
            clear ex ekl e7 e8 hnode
            have hb4 : Below wr.heap.size wr (wr.alloc (.cells #[.int .i64 x.kind, .int .i64 x.num, .string x.name, .string x.more, .string x.into, .slice ko kl kc] 79)) := (Below.refl _ _).alloc (Nat.le_refl _) _
            have HF4 := hide (HF2.out.stays hb4)
            clear hb4
            go_wp2
            go_loopw [46] (fun iv wr => UsC W1 n (.slice bo m bc) bs (bs ++ allKids (ns.take k)) x.kids iv wr) (fun iv _ => kl - (intOf iv).toNat)
            case atStart => exact ⟨0, by omega, rfl, by rw [List.take_zero, List.append_nil]; exact HF4.out⟩
            case round =>
              clear c0 c1 c2 d0 d1 d2 d3 d4 d5
              obtain ⟨j, hj, rfl, HF3⟩ := hrel
              rw [EKL.out] at hj
              by_cases hltj : j < kl
              · have hltj' : (j : Int) < (kl : Int) := by omega
                have hj0 : (0 : Int) ≤ (j : Int) := by omega
                have hjx : j < x.kids.length := by rw [EKL.out]; exact hltj
                obtain ⟨ko', kc', e5, hkc⟩ := HKI.out.stays HF3.out.bel
                injection e5 with e6 e7 e8
                subst e6
                obtain ⟨b, rfl, _, hy⟩ := hkc j hjx
                have HT : Hid (x.kids.take (j + 1) = x.kids.take j ++ [x.kids[j]]) := List.take_succ_eq_append_getElem hjx
                obtain ⟨hy0, hy1⟩ := HKK.out _ (List.getElem_mem hjx)
                obtain ⟨y, ey⟩ : ∃ y, x.kids[j] = y := ⟨_, rfl⟩
                rw [ey] at hy HT hy0 hy1
                obtain ⟨t, ht⟩ : ∃ t : Nat, y = (t : Int) := ⟨y.toNat, by omega⟩
                subst ht
                clear ey hkc e7 e8
                have htn : t < n := by omega
                obtain ⟨k0, f0⟩ := ownsCnt_cell HF3.out.own htn
                have hle := cnt_le (n := n) (bs ++ allKids (ns.take k) ++ x.kids.take j) htn
                have HST := hide (HF3.out.step htn)
                obtain ⟨q, eq⟩ : ∃ q, (cnt n (bs ++ allKids (ns.take k) ++ x.kids.take j)).getD t 0 = q := ⟨_, rfl⟩
                rw [eq] at k0 hle HST
                have hq0 : 0 ≤ q := hle.1
                have hq1 : q ≤ 2097152 := by
                  have h1 := hle.2
                  have h2 := HLT.out
                  rw [List.length_append, List.length_append, List.length_take] at h1
                  omega
                clear eq hle
                go_wp2
                go_roundw
                case rel =>
                  refine ⟨j + 1, ?_, by go_num, ?_⟩
                  · rw [EKL.out]; omega
                  · rw [HT.out, ← List.append_assoc]; exact HST.out
                case measure => simp [intOf]; omega
              · have hltj' : ¬ (j : Int) < (kl : Int) := by omega
                have HE : Hid (CntS W1 n (.slice bo m bc) bs (bs ++ allKids (ns.take (k + 1))) wr) := by
                  have h := HF3.out
                  rw [List.take_of_length_le (l := x.kids) (i := j) (by rw [EKL.out]; omega), List.append_assoc, ← HKT.out] at h
                  exact h
                go_wp2
                go_roundw
                case rel => exact ⟨k + 1, by rw [EN.out]; omega, by go_num, by rw [EN.out]; exact HE.out⟩
                case measure => simp [intOf]; omega
          · have hltk' : ¬ (k : Int) < (n : Int) := by omega
            have HG : Hid (CntS W1 n (.slice bo m bc) bs (bs ++ allKids ns) wr) := by
              have h := HF2.out
              rw [List.take_of_length_le (by rw [EN.out]; omega)] at h
              exact h
            clear HF2
            go_wp2
            go_loopw [60] (fun iv wr => UsE W1 n (.slice bo m bc) bs (bs ++ allKids ns) iv wr) (fun iv _ => n - (intOf iv).toNat)
            case atStart => exact ⟨0, by omega, rfl, HG.out, fun j y hj => absurd hj (Nat.not_lt_zero j)⟩
            case round =>
              obtain ⟨j, hj, rfl, HF3, HA⟩ := hrel
              by_cases hltj : j < n
              · have hltj' : (j : Int) < (n : Int) := by omega
                have hj0 : (0 : Int) ≤ (j : Int) := by omega
                obtain ⟨k0, _⟩ := ownsCnt_cell HF3.out.own hltj
                have EC : Hid ((cnt n (bs ++ allKids ns))[j]? = some ((cnt n (bs ++ allKids ns)).getD j 0)) := by
                  show _ = _
                  rw [List.getD_eq_getElem?_getD, List.getElem?_eq_getElem (by rw [cnt_len]; exact hltj)]
                  rfl
                obtain ⟨q, eq⟩ : ∃ q, (cnt n (bs ++ allKids ns)).getD j 0 = q := ⟨_, rfl⟩
                rw [eq] at k0 EC
                clear eq
                by_cases hq : q = 1
                · subst hq
                  go_wp2
                  go_roundw
                  case rel => exact ⟨j + 1, by omega, by go_num, HF3.out, fun i z hi hz => by
                    rcases Nat.lt_succ_iff_lt_or_eq.1 hi with h | h
                    · exact HA.out i z h hz
                    · subst h; rw [EC.out] at hz; cases hz; rfl⟩
                  case measure => simp [intOf]; omega
                · have HF : Hid (onceB n (bs ++ allKids ns) = false) := all_no EC.out (by simp [hq])
                  go_wp2
                  go_ret
                  exact ⟨by rw [HF.out]; rfl, HB.out.trans (HF3.out.bel.mono (by rw [HS.out]; omega))⟩
              · have hltj' : ¬ (j : Int) < (n : Int) := by omega
                have HF : Hid (onceB n (bs ++ allKids ns) = true) := all_yes (fun i z hz => HA.out i z (by have := (List.getElem?_eq_some_iff.1 hz).1; rw [cnt_len] at this; omega) hz)
                go_wp2
                go_ret
                exact ⟨by rw [HF.out]; rfl, HB.out.trans (HF3.out.bel.mono (by rw [HS.out]; omega))⟩
end Go.Proofs.YtenhmecbebibkaaGreat
