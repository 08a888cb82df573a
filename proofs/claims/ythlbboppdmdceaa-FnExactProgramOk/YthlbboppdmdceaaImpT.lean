/-
  Walks: how deep a node is, by the program, where all nodes are right.
-/
import Derived.Test.YthlbboppdmdceaaImpP
import Derived.Test.YthlbboppdmdceaaTreeV
import Derived.Test.YthlbboppdmdceaaImpA
import Derived.Test.YthlbboppdmdceaaImpB
namespace Go.Proofs.Ythlbboppdmdceaa
open Go.RowKit

/-- Behind a node without a depth none has one. -/
theorem deep_zero {ns : List Nd} {i : Nat} (h : (deepsTo ns (i + 1)).getD i 0 = 0) : ∀ m, i ≤ m → (deepsTo ns (m + 1)).getD m 0 = 0
  | 0, hm => by
    have : i = 0 := by omega
    subst this
    exact h
  | m + 1, hm => by
    rcases Nat.lt_or_ge m i with h1 | h1
    · have : i = m + 1 := by omega
      subst this
      exact h
    · have h2 := deep_zero h m h1
      rw [deepsTo_at ns (m + 1 + 1) (Nat.lt_succ_self _), cutDeep, if_pos (.inr ⟨Nat.succ_pos _, by rw [Nat.add_sub_cancel]; exact h2⟩)]
def mxDeep (out : List Int) (d x : Int) : Int := if d < out.getD x.toNat 0 then out.getD x.toNat 0 else d
theorem mx_kid (out : List Int) : ∀ (ks : List Int) (d : Int), ks.foldl (kidDeep out) (d + 1) = ks.foldl (mxDeep out) d + 1
  | [], _ => rfl
  | x :: ks, d => by
    have e : kidDeep out (d + 1) x = mxDeep out d x + 1 := by
      unfold kidDeep mxDeep
      split <;> split <;> omega
    rw [List.foldl_cons, List.foldl_cons, e, mx_kid out ks]
theorem mx_in {out : List Int} (h : Deeps out) : ∀ (ks : List Int) (d : Int), 0 ≤ d ∧ d ≤ 10 → 0 ≤ ks.foldl (mxDeep out) d ∧ ks.foldl (mxDeep out) d ≤ 10
  | [], _, hd => hd
  | x :: ks, d, hd => by
    rw [List.foldl_cons]
    refine mx_in h ks _ ?_
    have := h x.toNat
    unfold mxDeep
    split <;> omega
theorem deep_next {ns : List Nd} {i : Nat} (hi : i < ns.length) (hn : nodeB ns[i] (kinds ns i) = true) (hA : ∀ j, j < i → 1 ≤ (deepsTo ns i).getD j 0) :
    cutDeep (deepsTo ns i) i (kidsDeep ns (deepsTo ns i) i) = if ns[i].kids.foldl (mxDeep (deepsTo ns i)) 0 = 10 then 0 else ns[i].kids.foldl (mxDeep (deepsTo ns i)) 0 + 1 := by
  have h1 : kidsDeep ns (deepsTo ns i) i = ns[i].kids.foldl (mxDeep (deepsTo ns i)) 0 + 1 := by
    rw [kidsDeep, getD_at hi, hn, ← mx_kid]
    rfl
  have h2 := mx_in (deepsTo_in ns i) ns[i].kids 0 (by omega)
  rw [h1, cutDeep]
  have h3 : ¬ (0 < i ∧ (deepsTo ns i).getD (i - 1) 0 = 0) := fun h => by
    have := hA (i - 1) (by omega)
    omega
  by_cases h4 : ns[i].kids.foldl (mxDeep (deepsTo ns i)) 0 = 10
  · rw [if_pos h4, if_pos (.inl (by omega))]
  · rw [if_neg h4, if_neg (by omega)]

def DpR (base : Nat) (W1 : World) (ns : List Nd) (n : Nat) (v iv : Value) (wr : World) : Prop :=
  ∃ i : Nat, i ≤ n ∧ iv = .int .i64 i ∧ Hid (wr.ownsRow base 3 1 v i ((deepsTo ns i).map I64)) ∧ Hid (Below W1.heap.size W1 wr) ∧ Hid (∀ j, j < i → 1 ≤ (deepsTo ns i).getD j 0)
def DpI (w2 : World) (out ks : List Int) (dv iv : Value) (wr : World) : Prop :=
  ∃ (j : Nat) (d : Int), j ≤ ks.length ∧ iv = .int .i64 j ∧ dv = .int .i64 d ∧ Hid (d = (ks.take j).foldl (mxDeep out) 0) ∧ 0 ≤ d ∧ d ≤ 10 ∧ wr = w2

set_option maxRecDepth 100000 in
set_option maxHeartbeats 4000000 in
theorem deepOf_in (nv mv pv : Value) (ns : List Nd) (k : Nat) (w : World) (hN : NdsAt w nv ns) (hR : NdsRoom w nv ns.length) (hk : k < ns.length) (hl : ns.length ≤ 1048576) (hkx : ∀ x ∈ ns, x.kids.length ≤ 1048576) (hall : ∀ (j : Nat) (hj : j < ns.length), nodeB ns[j] (kinds ns j) = true) :
    Calls Try.prog 60 #[.agg #[nv, mv, pv], .int .i64 (k : Int)] w fun e w' => e = .returned (.int .i64 ((deepsTo ns (k + 1)).getD k 0)) ∧ Below w.heap.size w w' := by
  have hb1 : Below w.heap.size w (w.alloc (.cells #[nv, mv, pv] 33)) := (Below.refl _ _).alloc (Nat.le_refl _) _
  have CH := fun w h => hide (has_any nv mv pv ns (k : Int) w h)
  have e1 : inZ 0 ((ns.length : Int) - 1) (k : Int) = true := inZ_yes.2 (by omega)
  rw [e1] at CH
  have HN := hide (hN.stays hb1)
  have HX := hide (Boxed.made w nv mv pv 33)
  have HB := hide hb1
  have HS : Hid ((w.alloc (.cells #[nv, mv, pv] 33)).heap.size = w.heap.size + 1) := by show _ = _; simp
  have HALL := hide hall
  have HKX := hide hkx
  clear hb1 e1 hall hkx
  obtain ⟨ao, c, rfl, hro⟩ := hN
  have hcap : ns.length ≤ c := by
    obtain ⟨ao2, c2, e2, h2, _⟩ := hR
    injection e2 with _ _ e4
    omega
  clear hR
  obtain ⟨a0, rfl⟩ : ∃ a0, ao = some a0 := by
    obtain ⟨a, _, h, _⟩ := hro k hk
    exact ⟨a, h⟩
  clear hro
  obtain ⟨n, en⟩ : ∃ n, ns.length = n := ⟨_, rfl⟩
  have EN := hide en
  simp only [en] at HN HX HB HS CH hl hcap hk ⊢
  clear en
  have hk0 : (0 : Int) ≤ (k : Int) := by omega
  have hk1 : (k : Int) < (n : Int) := by omega
  have hkc : ((k : Int) + 1) ≤ (c : Int) := by omega
  have hkc0 : (0 : Int) ≤ (k : Int) + 1 := by omega
  have htn : ((k : Int) + 1).toNat = k + 1 := by omega
  go_enter Try.func60, Try.ntmps60
  go_wp2_with fail
  obtain ⟨W1, hW⟩ : ∃ W1, w.alloc (.cells #[.slice (some a0) n c, mv, pv] 33) = W1 := ⟨_, rfl⟩
  rw [hW] at HN HX HB HS ⊢
  clear hW
  refine (unhide (CH _ HN.out)).mono ?_
  rintro e w1 ⟨rfl, hb2⟩
  have HB1 := hide hb2
  obtain ⟨c0, c1, c2, _⟩ := HX.out.stays hb2
  clear hb2 CH
  go_wp2
  have hw1z : w.heap.size + 1 ≤ w1.heap.size := by rw [← HS.out]; exact HB1.out.size
  go_loopw [5, 22] (DpR (w.heap.size + 1) W1 ns (k + 1)) (fun _ iv _ => k + 1 - (intOf iv).toNat)
  case atStart => exact ⟨0, by omega, rfl, ownsRow_empty w1 (w.heap.size + 1) 3 hw1z, HB1.out.alloc HB1.out.size _, fun j hj => absurd hj (Nat.not_lt_zero j)⟩
  case round =>
    clear c0 c1 c2
    obtain ⟨i, hi, rfl, HO, HB2, HA⟩ := hrel
    by_cases hlt : i < k + 1
    · have hlt' : (i : Int) < (k : Int) + 1 := by omega
      have hi0 : (0 : Int) ≤ (i : Int) := by omega
      have hin : (i : Int) < (n : Int) := by omega
      have hix : i < ns.length := by rw [EN.out]; omega
      have HNX := hide (deep_next hix (HALL.out i hix) HA.out)
      have HAH := hide (nodeB_ahead hix (HALL.out i hix))
      have HKL := hide (HKX.out _ (List.getElem_mem hix))
      obtain ⟨a', cc', p, kv, e5, hpa, hpb, hnode⟩ := HN.out.node i hix
      injection e5 with e6 e7 e8
      cases e6
      have HKI := hide hnode.kids
      have hnode2 := hnode.stays HB2.out hpb
      obtain ⟨x, ex⟩ : ∃ x, ns[i] = x := ⟨_, rfl⟩
      have HAX : Hid (∀ (t : Nat) (ht : t < x.kids.length), 0 ≤ x.kids[t] ∧ x.kids[t] < (i : Int)) := by rw [← ex]; exact HAH.out
      rw [ex] at HNX HKL hnode2 HKI
      obtain ⟨d0, d1, d2, d3, d4, d5, hkids⟩ := hnode2
      obtain ⟨ko, kc, rfl, _⟩ := hkids
      obtain ⟨kl, ekl⟩ : ∃ kl, x.kids.length = kl := ⟨_, rfl⟩
      have EKL := hide ekl
      have hklb : kl ≤ 1048576 := by rw [← ekl]; exact HKL.out
      rw [ekl] at d5 HKI
      clear ex ekl e7 e8 hnode HAH
      obtain ⟨out, eo⟩ : ∃ out, deepsTo ns i = out := ⟨_, rfl⟩
      have EO := hide eo
      have HDP : Hid (Deeps out) := by rw [← eo]; exact deepsTo_in ns i
      have HLO : Hid (out.length = i) := by rw [← eo]; exact deepsTo_len ns i
      have HSC : Hid (deepsTo ns (i + 1) = out ++ [cutDeep out i (kidsDeep ns out i)]) := by show _ = _; rw [deepsTo, eo]
      rw [eo] at HO HNX HA
      clear eo
      have HO4 := hide (HO.out.alloc (.cells #[.int .i64 x.kind, .int .i64 x.num, .string x.name, .string x.more, .string x.into, .slice ko kl kc] 45))
      have HB4 : Hid (Below W1.heap.size W1 (wr.alloc (.cells #[.int .i64 x.kind, .int .i64 x.num, .string x.name, .string x.more, .string x.into, .slice ko kl kc] 45))) := HB2.out.alloc HB2.out.size _
      go_wp2
      obtain ⟨W4, hW4⟩ : ∃ W4, wr.alloc (.cells #[.int .i64 x.kind, .int .i64 x.num, .string x.name, .string x.more, .string x.into, .slice ko kl kc] 45) = W4 := ⟨_, rfl⟩
      rw [hW4] at HO4 HB4 ⊢
      clear hW4 d0 d1 d2 d3 d4 d5
      go_loopw [8, 30] (DpI W4 out x.kids) (fun _ iv _ => kl - (intOf iv).toNat)
      case atStart => exact ⟨0, 0, by omega, rfl, rfl, rfl, by omega, by omega, rfl⟩
      case round =>
        obtain ⟨j, d, hj, rfl, rfl, HD, hd1, hd2, rfl⟩ := hrel
        rw [EKL.out] at hj
        by_cases hltj : j < kl
        · have hltj' : (j : Int) < (kl : Int) := by omega
          have hj0 : (0 : Int) ≤ (j : Int) := by omega
          have hjx : j < x.kids.length := by rw [EKL.out]; exact hltj
          obtain ⟨ko', kc', e5, hkc⟩ := HKI.out.stays HB4.out
          injection e5 with e6 e7 e8
          subst e6
          obtain ⟨b, rfl, _, hy⟩ := hkc j hjx
          obtain ⟨hy0, hy1⟩ := HAX.out j hjx
          have EJ : Hid ((x.kids.take (j + 1)).foldl (mxDeep out) 0 = mxDeep out d x.kids[j]) := by
            show _ = _
            rw [List.take_add_one, List.getElem?_eq_getElem hjx, List.foldl_append, HD.out]
            rfl
          obtain ⟨y, ey⟩ : ∃ y, x.kids[j] = y := ⟨_, rfl⟩
          rw [ey] at hy hy0 hy1 EJ
          clear ey hkc e7 e8
          obtain ⟨t, et⟩ : ∃ t : Nat, y = (t : Int) := ⟨y.toNat, by omega⟩
          subst et
          obtain ⟨g, cap, rfl, hg1, hg2, hcell⟩ := ownsInts_form HO4.out (by omega)
          have hz := hcell t (by omega)
          have hzi := HDP.out t
          have EK : Hid (mxDeep out d (t : Int) = if d < out.getD t 0 then out.getD t 0 else d) := by show _ = _; rw [mxDeep]; rfl
          obtain ⟨z, ez⟩ : ∃ z, out.getD t 0 = z := ⟨_, rfl⟩
          rw [ez] at hz hzi EK
          clear ez hcell
          have hyl : ¬ (t : Int) < 0 := by omega
          have hyk : ¬ (i : Int) ≤ (t : Int) := by omega
          have hti : (t : Int) < (i : Int) := by omega
          have ht0 : (0 : Int) ≤ (t : Int) := by omega
          by_cases hdz : d < z
          · have hE : Hid (z = (x.kids.take (j + 1)).foldl (mxDeep out) 0) := by show _ = _; rw [EJ.out, EK.out, if_pos hdz]
            go_wp2
            go_roundw
            case rel => exact ⟨j + 1, z, by rw [EKL.out]; omega, by go_num, rfl, hE.out, by omega, by omega, rfl⟩
            case measure => simp [intOf]; omega
          · have hE : Hid (d = (x.kids.take (j + 1)).foldl (mxDeep out) 0) := by show _ = _; rw [EJ.out, EK.out, if_neg hdz]
            go_wp2
            go_roundw
            case rel => exact ⟨j + 1, d, by rw [EKL.out]; omega, by go_num, rfl, hE.out, by omega, by omega, rfl⟩
            case measure => simp [intOf]; omega
        · have hltj' : ¬ (j : Int) < (kl : Int) := by omega
          have HE : Hid (x.kids.foldl (mxDeep out) 0 = d) := by
            have h := HD.out
            rw [List.take_of_length_le (by rw [EKL.out]; omega)] at h
            exact h.symm
          rw [HE.out] at HNX
          by_cases hd10 : d = 10
          · subst hd10
            have HZ : Hid ((deepsTo ns (k + 1)).getD k 0 = 0) := by
              refine deep_zero (i := i) ?_ k (by omega)
              rw [deepsTo_at ns (i + 1) (Nat.lt_succ_self _), EO.out, HNX.out]
              rfl
            go_wp2
            go_ret
            exact ⟨by rw [← List.getD_eq_getElem?_getD, HZ.out]; rfl, HB.out.trans (HB4.out.mono HB.out.size)⟩
          · have HC : Hid (cutDeep out i (kidsDeep ns out i) = d + 1) := by show _ = _; rw [HNX.out, if_neg hd10]
            rw [HC.out] at HSC
            have hwz : w.heap.size + 1 ≤ wr.heap.size := by rw [← HS.out]; exact HB4.out.size
            go_wp2_with (at_builtin; refine wpList_app1 rfl (.tmp 50) (.tmp 53) 43 rfl (w.heap.size + 1) 3 (.int .i64 0) 8 Try.underlying43 Try.infoInt rfl _ _ _ _ rfl HO4.out rfl rfl (by unfold maxLen; omega) (by omega) hwz ?_)
            intro v' w5 hown5 hb5
            have R : DpR (w.heap.size + 1) W1 ns (k + 1) v' (.int .i64 ((i : Int) + 1)) w5 := ⟨i + 1, by omega, rfl, hide (by rw [HSC.out]; simpa using hown5), HB4.out.trans (by rw [HS.out]; exact hb5), fun t ht => by
              rw [HSC.out]
              rcases Nat.lt_succ_iff_lt_or_eq.1 ht with h | h
              · have e : (out ++ [d + 1]).getD t 0 = out.getD t 0 := by
                  simp [List.getD_eq_getElem?_getD, List.getElem?_append_left (show t < out.length by rw [HLO.out]; exact h)]
                rw [e]
                exact HA.out t h
              · subst h
                have e : (out ++ [d + 1]).getD t 0 = d + 1 := by
                  simp [List.getD_eq_getElem?_getD, HLO.out]
                rw [e]
                omega⟩
            clear hown5 hb5
            go_wp2
            go_roundw
            case rel => exact R
            case measure => simp [intOf]; omega
    · have hlt' : ¬ (i : Int) < (k : Int) + 1 := by omega
      have ei : i = k + 1 := by omega
      subst ei
      obtain ⟨g, cap, rfl, hg1, hg2, hcell⟩ := ownsInts_form HO.out (by omega)
      have hz := hcell k (by omega)
      obtain ⟨z, ez⟩ : ∃ z, (deepsTo ns (k + 1)).getD k 0 = z := ⟨_, rfl⟩
      have EZ := hide ez
      rw [ez] at hz
      clear ez hcell
      have hkk : (k : Int) < (k : Int) + 1 := by omega
      go_wp2
      go_ret
      exact ⟨by rw [← List.getD_eq_getElem?_getD, EZ.out]; rfl, HB.out.trans (HB2.out.mono HB.out.size)⟩
end Go.Proofs.Ythlbboppdmdceaa
