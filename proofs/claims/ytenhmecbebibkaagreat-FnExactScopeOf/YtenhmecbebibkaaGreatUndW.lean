/-
  Walks: the nodes under a node, by the specification.
-/
import Derived.Test.YtenhmecbebibkaaGreatImpU
import Derived.Test.YtenhmecbebibkaaGreatTreeU
import Derived.Test.YtenhmecbebibkaaGreatLawN
import Derived.Test.YtenhmecbebibkaaGreatAid
import Derived.Test.YtenhmecbebibkaaGreatImpT
namespace Go.Proofs.YtenhmecbebibkaaGreat
open Go.RowKit

theorem Tryz.infoBool : (Tryz.prog.info? 4).map (fun i => (i.zero, i.size, i.bytes)) = some (some (.bool false), 1, 1) := by kernel_rfl
/-- While nodes are marked: the row of marks, what was there. -/
structure UndZ (W1 : World) (n : Nat) (u : List Bool) (wr : World) : Prop where
  own : wr.ownsRow W1.heap.size 4 1 (.slice (some ⟨W1.heap.size, 0, none⟩) n n) n (u.map Value.bool)
  bel : Below W1.heap.size W1 wr
  len : u.length = n
theorem UndZ.step {W1 : World} {n : Nat} {u : List Bool} {wr : World} (h : UndZ W1 n u wr) (y : Nat) : UndZ W1 n (u.set y true) (wr.setCell ⟨W1.heap.size, y, none⟩ (.bool true)) := by
  have := (h.own.stored y (.bool true)).1
  refine ⟨?_, h.bel.setCell (Nat.le_refl _) _, by rw [List.length_set]; exact h.len⟩
  rw [List.map_set]
  exact this
theorem UndZ.cell {W1 : World} {n : Nat} {u : List Bool} {wr : World} (h : UndZ W1 n u wr) {j : Nat} (hj : j < n) : wr.cell? ⟨W1.heap.size, j, none⟩ = some (.bool (u.getD j false)) ∧ wr.frozen? ⟨W1.heap.size, j, none⟩ = false := by
  refine ⟨?_, h.own.frozenAt j⟩
  rw [h.own.cellAt j (by omega), List.getElem?_map, List.getD_eq_getElem?_getD, List.getElem?_eq_getElem (by rw [h.len]; exact hj)]
  rfl
theorem flat_oneB (n : Nat) : (List.replicate n [Value.bool false]).flatten = (List.replicate n false).map Value.bool := by
  induction n with
  | zero => rfl
  | succ m ih => rw [List.replicate_succ, List.flatten_cons, ih]; rfl
def UndO (W1 : World) (ns : List Nd) (n : Nat) (k : Nat) (R : List Bool) (iv : Value) (wr : World) : Prop := ∃ (m : Nat) (u : List Bool), m ≤ k + 1 ∧ iv = .int .i64 ((m : Int) - 1) ∧ Hid (UndZ W1 n u wr) ∧ Hid (undF ns u m = R)
def UndI (W1 : World) (n : Nat) (u : List Bool) (ks : List Int) (jv : Value) (wr : World) : Prop := ∃ j : Nat, j ≤ ks.length ∧ jv = .int .i64 j ∧ Hid (UndZ W1 n (markK u (ks.take j)) wr)

set_option maxRecDepth 100000 in
set_option maxHeartbeats 2000000 in
theorem l08Under_any (nv mv pv : Value) (ns : List Nd) (k : Nat) (w : World) (hN : NdsAt w nv ns) (hM : ∃ o n c, mv = .slice o n c) (hP : ∃ o n c, pv = .slice o n c) (hl : ns.length ≤ 1048576) (hk : k < ns.length) (hkx : ∀ x ∈ ns, x.kids.length ≤ 1048576) (hK : ∀ x ∈ ns, ∀ y ∈ x.kids, 0 ≤ y ∧ y < (ns.length : Int)) :
    Calls Tryz.prog 38 #[.agg #[nv, mv, pv], .int .i64 (k : Int)] w fun e w' => ∃ v, e = .returned v ∧ w'.ownsRow (w.heap.size + 1) 4 1 v ns.length ((undL ns ns.length k).map Value.bool) ∧ Below w.heap.size w w' := by
  have hb1 : Below w.heap.size w (w.alloc (.cells #[nv, mv, pv] 33)) := (Below.refl _ _).alloc (Nat.le_refl _) _
  have HN := hide (hN.stays hb1)
  have HX := hide (Boxed.made w nv mv pv 33)
  have HB := hide hb1
  have HS : Hid ((w.alloc (.cells #[nv, mv, pv] 33)).heap.size = w.heap.size + 1) := by show _ = _; simp
  clear hb1
  obtain ⟨ao, c, rfl, _⟩ := hN
  obtain ⟨mo, mn, mc, rfl⟩ := hM
  obtain ⟨po, pn, pc, rfl⟩ := hP
  obtain ⟨n, en⟩ : ∃ n, ns.length = n := ⟨_, rfl⟩
  have EN := hide en
  have HKX := hide hkx
  have HK := hide hK
  simp only [en] at HN HX HB HS hl HK hk ⊢
  clear en hkx hK
  obtain ⟨W1, hW⟩ : ∃ W1, w.alloc (.cells #[.slice ao n c, .slice mo mn mc, .slice po pn pc] 33) = W1 := ⟨_, rfl⟩
  obtain ⟨i0, hi, hz0, hz1, hz2⟩ := info_parts (Tryz.infoBool)
  obtain ⟨wm, hmk, hown, hgr⟩ := run_make_full (P := Tryz.prog) W1 W1.heap.size 84 4 i0 (.bool false) 1 Tryz.underlying84 hi hz0 hz1 .i64 .i64 n (by rw [hz2]; omega) (by unfold maxLen; omega) (Nat.le_refl _)
  rw [hW] at HN HX HB HS
  have OW : Hid (UndZ W1 n (List.replicate n false) wm) := by
    have e := made_flat [.bool false] (by decide) n
    simp only [List.length_singleton] at e
    refine ⟨?_, (Below.refl _ _).grown hgr (Nat.le_refl _) (fun k hk => by cases hk), by simp⟩
    rw [← flat_oneB, ← e]
    exact hown
  have OW1 := hide (OW.out.step k)
  rw [HS.out, ← hW] at hmk
  have HWW := hide hW
  have hk0 : (0 : Int) ≤ (k : Int) := by omega
  have hkn : (k : Int) < (n : Int) := by omega
  obtain ⟨q0, f0⟩ := OW.out.cell hk
  rw [HS.out] at q0 f0 OW1
  clear hown hgr hi hz0 hz1 hz2 hW
  obtain ⟨c0, c1, c2, hlt0⟩ := HX.out.stays OW.out.bel
  go_enter Tryz.func38, Tryz.ntmps38
  go_wp2
  rw [← HS.out] at OW1 ⊢
  clear c0 c1 c2 hlt0 q0 f0 hmk
  go_loopw [6] (fun iv wr => UndO W1 ns n k (undL ns n k) iv wr) (fun iv _ => (intOf iv + 1).toNat)
  case atStart => exact ⟨k + 1, _, Nat.le_refl _, by simp, OW1.out, rfl⟩
  case round =>
    clear OW1 OW
    obtain ⟨m, u, hm, rfl, HU, HR⟩ := hrel
    cases m with
    | zero =>
      have HF : Hid (u = undL ns n k) := HR.out
      have HO : Hid (wr.ownsRow (w.heap.size + 1) 4 1 (.slice (some ⟨W1.heap.size, 0, none⟩) n n) n ((undL ns n k).map Value.bool)) := by
        have h := HU.out.own
        rw [HF.out, HS.out] at h
        rw [HS.out]
        exact h
      have HBB := hide (HB.out.trans (HU.out.bel.mono (by rw [HS.out]; omega)))
      go_wp2
      go_ret
      exact ⟨_, rfl, HO.out, HBB.out⟩
    | succ i =>
      have ei : ((i + 1 : Nat) : Int) - 1 = (i : Int) := by omega
      rw [ei]
      have hin : i < n := by omega
      have hi0 : (0 : Int) ≤ (i : Int) := by omega
      have hi1 : (i : Int) < (n : Int) := by omega
      have hix : i < ns.length := by rw [EN.out]; exact hin
      have HKK := hide (HK.out _ (List.getElem_mem hix))
      have hkl := HKX.out _ (List.getElem_mem hix)
      have HG : Hid (ns.getD i default = ns[i]) := by show _ = _; rw [List.getD_eq_getElem?_getD, List.getElem?_eq_getElem hix]; rfl
      have HUS : Hid (undF ns (undS ns u i) i = undL ns n k) := HR.out
      obtain ⟨x, ex⟩ : ∃ x, ns[i] = x := ⟨_, rfl⟩
      have EX := hide ex
      rw [ex] at HKK hkl HG
      obtain ⟨kl, ekl⟩ : ∃ kl, x.kids.length = kl := ⟨_, rfl⟩
      have EKL := hide ekl
      rw [ekl] at hkl
      clear ex ekl ei
      cases hui : u.getD i false with
      | false =>
        have HS2 : Hid (undS ns u i = u) := by show _ = _; rw [undS, hui]; rfl
        have HBI : Hid (u.getD i false = false) := hui
        clear hui
        go_wp2
        go_loopw [7] (fun jv z => jv = .int .i64 0 ∧ Hid (UndZ W1 n u z)) (fun _ _ => 0)
        case atStart => exact ⟨rfl, HU⟩
        case round =>
          obtain ⟨rfl, HV⟩ := hrel
          obtain ⟨c0, c1, c2, _⟩ := HX.out.stays HV.out.bel
          obtain ⟨q0, f0⟩ := HV.out.cell hin
          rw [HBI.out] at q0
          obtain ⟨a', cc', p, kv, e5, hpa, hpb, hnode⟩ := (HN.out.stays HV.out.bel).node i hix
          injection e5 with e6 e7 e8
          subst e6
          have d5 := hnode.c5
          have hkr := hnode.kids
          rw [EX.out] at hkr
          obtain ⟨ko, kc, rfl, hkc⟩ := hkr
          rw [EKL.out] at d5
          clear hnode e7 e8
          by_cases hz : (0 : Int) < (kl : Int)
          · go_wp2
            go_roundw
            case rel => exact ⟨i, u, by omega, rfl, HV.out, by rw [← HS2.out]; exact HUS.out⟩
            case measure => simp [intOf]
          · go_wp2
            go_roundw
            case rel => exact ⟨i, u, by omega, rfl, HV.out, by rw [← HS2.out]; exact HUS.out⟩
            case measure => simp [intOf]
      | true =>
        have HS2 : Hid (undS ns u i = markK u x.kids) := by show _ = _; rw [undS, hui, HG.out]; rfl
        have HKP : Hid (∀ ks, (markK u ks).getD i false = true) := fun ks => markK_keep ks u i hui
        clear hui
        go_wp2
        go_loopw [7] (fun jv z => UndI W1 n u x.kids jv z) (fun jv _ => kl - (intOf jv).toNat)
        case atStart => exact ⟨0, by omega, rfl, HU.out⟩
        case round =>
          obtain ⟨j, hj, rfl, HV⟩ := hrel
          rw [EKL.out] at hj
          have HBI := hide (HKP.out (x.kids.take j))
          obtain ⟨c0, c1, c2, _⟩ := HX.out.stays HV.out.bel
          obtain ⟨q0, f0⟩ := HV.out.cell hin
          rw [HBI.out] at q0
          obtain ⟨a', cc', p, kv, e5, hpa, hpb, hnode⟩ := (HN.out.stays HV.out.bel).node i hix
          injection e5 with e6 e7 e8
          subst e6
          have d5 := hnode.c5
          have hkr := hnode.kids
          rw [EX.out] at hkr
          obtain ⟨ko, kc, rfl, hkc⟩ := hkr
          rw [EKL.out] at d5
          clear hnode e7 e8
          by_cases hltj : j < kl
          · have hltj' : (j : Int) < (kl : Int) := by omega
            have hj0 : (0 : Int) ≤ (j : Int) := by omega
            have hjx : j < x.kids.length := by rw [EKL.out]; exact hltj
            obtain ⟨b, rfl, _, hy⟩ := hkc j hjx
            have HT : Hid (markK u (x.kids.take (j + 1)) = (markK u (x.kids.take j)).set x.kids[j].toNat true) := by
              show _ = _
              rw [List.take_succ_eq_append_getElem hjx, markK_snoc]
            obtain ⟨hy0, hy1⟩ := HKK.out _ (List.getElem_mem hjx)
            obtain ⟨t, ht⟩ : ∃ t : Nat, x.kids[j] = (t : Int) := ⟨x.kids[j].toNat, by omega⟩
            rw [ht] at hy HT hy0 hy1
            rw [Int.toNat_natCast] at HT
            have htn : t < n := by omega
            obtain ⟨r0, g0⟩ := HV.out.cell htn
            have HST := hide (HV.out.step t)
            clear hkc ht
            go_wp2
            go_roundw
            case rel => exact ⟨j + 1, by rw [EKL.out]; omega, by go_num, by rw [HT.out]; exact HST.out⟩
            case measure => simp [intOf]; omega
          · have hltj' : ¬ (j : Int) < (kl : Int) := by omega
            have HE : Hid (x.kids.take j = x.kids) := List.take_of_length_le (by rw [EKL.out]; omega)
            rw [HE.out] at HV
            go_wp2
            go_roundw
            case rel => exact ⟨i, markK u x.kids, by omega, rfl, HV.out, by rw [← HS2.out]; exact HUS.out⟩
            case measure => simp [intOf]
end Go.Proofs.YtenhmecbebibkaaGreat

namespace Go.Proofs.YtenhmecbebibkaaGreat

/-- The kids of each node stand ahead of it. -/
def KidsLow (ns : List Nd) : Prop := ∀ i, ∀ y ∈ (ns.getD i default).kids, 0 ≤ y ∧ y < (i : Int)
theorem markK_set : ∀ (ks : List Int) (u : List Bool) (y : Int), y ∈ ks → y.toNat < u.length → (markK u ks).getD y.toNat false = true
  | [], _, _, h, _ => absurd h (by simp)
  | z :: ks, u, y, h, hl => by
    show (markK (u.set z.toNat true) ks).getD y.toNat false = true
    rcases List.mem_cons.1 h with rfl | h
    · refine markK_keep ks _ _ ?_
      rw [List.getD_eq_getElem?_getD, List.getElem?_set_self hl]
      rfl
    · exact markK_set ks _ y h (by rw [List.length_set]; exact hl)
theorem markK_other : ∀ (ks : List Int) (u : List Bool) (i : Nat), (∀ y ∈ ks, y.toNat ≠ i) → (markK u ks).getD i false = u.getD i false
  | [], _, _, _ => rfl
  | z :: ks, u, i, h => by
    show (markK (u.set z.toNat true) ks).getD i false = _
    rw [markK_other ks _ i fun y hy => h y (List.mem_cons_of_mem _ hy), List.getD_eq_getElem?_getD, List.getElem?_set_ne (h z (List.mem_cons_self)), ← List.getD_eq_getElem?_getD]
theorem undS_keep (ns : List Nd) (u : List Bool) (j i : Nat) (h : u.getD i false = true) : (undS ns u j).getD i false = true := by
  unfold undS
  split
  · exact markK_keep _ _ _ h
  · exact h
theorem undF_keep (ns : List Nd) : ∀ (m : Nat) (u : List Bool) (i : Nat), u.getD i false = true → (undF ns u m).getD i false = true
  | 0, _, _, h => h
  | m + 1, u, i, h => by
    rw [undF]
    exact undF_keep ns m _ i (undS_keep ns u m i h)
theorem undS_high {ns : List Nd} (hk : KidsLow ns) (u : List Bool) {j i : Nat} (h : j ≤ i) : (undS ns u j).getD i false = u.getD i false := by
  unfold undS
  split
  · exact markK_other _ _ _ fun y hy => by have := hk j y hy; omega
  · rfl
theorem undF_high {ns : List Nd} (hk : KidsLow ns) : ∀ (m : Nat) (u : List Bool) (i : Nat), m ≤ i → (undF ns u m).getD i false = u.getD i false
  | 0, _, _, _ => rfl
  | m + 1, u, i, h => by rw [undF, undF_high hk m _ i (by omega), undS_high hk u (by omega)]
theorem undF_kid {ns : List Nd} (hk : KidsLow ns) : ∀ (m : Nat) (u : List Bool) (i : Nat) (y : Int), i < m → (undF ns u m).getD i false = true → y ∈ (ns.getD i default).kids → y.toNat < u.length → (undF ns u m).getD y.toNat false = true
  | 0, _, _, _, h, _, _, _ => absurd h (Nat.not_lt_zero _)
  | m + 1, u, i, y, hi, hm, hy, hl => by
    rw [undF] at hm ⊢
    by_cases e : i = m
    · subst e
      rw [undF_high hk i _ i (Nat.le_refl _), undS_high hk u (Nat.le_refl _)] at hm
      refine undF_keep ns i _ _ ?_
      rw [undS, if_pos hm]
      exact markK_set _ _ _ hy hl
    · exact undF_kid hk m _ i y (by omega) hm hy (by rw [undS_len]; exact hl)
theorem undL_self (ns : List Nd) {n k : Nat} (h : k < n) : (undL ns n k).getD k false = true := by
  refine undF_keep ns _ _ _ ?_
  rw [List.getD_eq_getElem?_getD, List.getElem?_set_self (by rw [List.length_replicate]; exact h)]
  rfl
theorem undL_kid {ns : List Nd} (hk : KidsLow ns) {n k i : Nat} {y : Int} (hi : i ≤ k) (hn : i < n) (hm : (undL ns n k).getD i false = true) (hy : y ∈ (ns.getD i default).kids) : (undL ns n k).getD y.toNat false = true := by
  refine undF_kid hk _ _ i y (by omega) hm hy ?_
  have := hk i y hy
  rw [List.length_set, List.length_replicate]
  omega
/-- Where each node is a body, or a kid of a node, each node is under a body. -/
theorem under_some {ns : List Nd} (hk : KidsLow ns) {bs : List Int} (hb : ∀ b ∈ bs, 0 ≤ b ∧ b < (ns.length : Int)) (hu : ∀ i < ns.length, (i : Int) ∈ bs ∨ ∃ j < ns.length, (i : Int) ∈ (ns.getD j default).kids) :
    ∀ (d i : Nat), ns.length ≤ i + d → i < ns.length → ∃ b ∈ bs, i ≤ b.toNat ∧ (undL ns ns.length b.toNat).getD i false = true
  | 0, i, h, hi => absurd h (by omega)
  | d + 1, i, h, hi => by
    rcases hu i hi with h1 | ⟨j, hj, h1⟩
    · exact ⟨(i : Int), h1, by omega, by rw [Int.toNat_natCast]; exact undL_self ns hi⟩
    · have h2 := hk j _ h1
      obtain ⟨b, hb1, hb2, hb3⟩ := under_some hk hb hu d j (by omega) hj
      refine ⟨b, hb1, by omega, ?_⟩
      have h3 := undL_kid hk hb2 hj hb3 h1
      rwa [Int.toNat_natCast] at h3
end Go.Proofs.YtenhmecbebibkaaGreat

namespace Go.Proofs.YtenhmecbebibkaaGreat
open Go.RowKit

/-- The place of the first that is so; -1 without one. -/
def firstAt {α : Type} (f : α → Bool) (xs : List α) : Int := match xs.findIdx? f with
  | some i => (i : Int)
  | none => -1
theorem first_hit {α : Type} {f : α → Bool} {xs : List α} {i : Nat} (hi : i < xs.length) (h : ∀ j (hj : j < xs.length), j < i → f xs[j] = false) (hx : f xs[i] = true) : firstAt f xs = (i : Int) := by
  have e : xs.findIdx? f = some i := List.findIdx?_eq_some_iff_getElem.2 ⟨hi, hx, fun j hj => by rw [h j (by omega) hj]; exact Bool.noConfusion⟩
  rw [firstAt, e]
theorem first_none {α : Type} {f : α → Bool} {xs : List α} (h : ∀ j (hj : j < xs.length), f xs[j] = false) : firstAt f xs = -1 := by
  have e : xs.findIdx? f = none := List.findIdx?_eq_none_iff.2 (fun x hx => by
    obtain ⟨j, hj, rfl⟩ := List.getElem_of_mem hx
    exact h j hj)
  rw [firstAt, e]
theorem first_le {α : Type} (f : α → Bool) (xs : List α) : -1 ≤ firstAt f xs ∧ firstAt f xs < (xs.length : Int) := by
  rw [firstAt]
  split
  · rename_i i e
    have := (List.findIdx?_eq_some_iff_getElem.1 e).1
    omega
  · omega
/-- What a search has seen so far. -/
def NoneTo {α : Type} (f : α → Bool) (xs : List α) (i : Nat) : Prop := ∀ j (hj : j < xs.length), j < i → f xs[j] = false
theorem NoneTo.zero {α : Type} (f : α → Bool) (xs : List α) : NoneTo f xs 0 := fun _ _ h => absurd h (Nat.not_lt_zero _)
theorem NoneTo.step {α : Type} {f : α → Bool} {xs : List α} {i : Nat} (h : NoneTo f xs i) (hx : ∀ hi : i < xs.length, f xs[i] = false) : NoneTo f xs (i + 1) := fun j hj hji => by
  by_cases e : j = i
  · subst e; exact hx hj
  · exact h j hj (by omega)
def monN (name : ByteArray) (m : Mo) : Bool := decide (m.name = name)
def entN (name : ByteArray) (m : En) : Bool := decide (m.name = name)
def SchR {α : Type} (w : World) (f : α → Bool) (xs : List α) (iv : Value) (wr : World) : Prop := ∃ i : Nat, i ≤ xs.length ∧ iv = .int .i64 i ∧ Hid (Below w.heap.size w wr) ∧ Hid (NoneTo f xs i)
theorem NoneTo.hit {α : Type} {f : α → Bool} {xs : List α} {i : Nat} (h : NoneTo f xs i) (hi : i < xs.length) (hx : f xs[i] = true) : firstAt f xs = (i : Int) := first_hit hi h hx
theorem NoneTo.none {α : Type} {f : α → Bool} {xs : List α} {i : Nat} (h : NoneTo f xs i) (hi : xs.length ≤ i) : firstAt f xs = -1 := first_none fun j hj => h j hj (by omega)
/-- A value that is a slice. -/
def SlV (v : Value) : Prop := ∃ o n c, v = .slice o n c
theorem StrsAt.sl {w : World} {v : Value} {xs : List ByteArray} (h : StrsAt w v xs) : SlV v := by obtain ⟨a, c, e, _⟩ := h; exact ⟨_, _, _, e⟩
theorem NdsAt.sl {w : World} {v : Value} {xs : List Nd} (h : NdsAt w v xs) : SlV v := by obtain ⟨a, c, e, _⟩ := h; exact ⟨_, _, _, e⟩
theorem PrsAt.sl {w : World} {v : Value} {xs : List Pr} (h : PrsAt w v xs) : SlV v := by obtain ⟨a, c, e, _⟩ := h; exact ⟨_, _, _, e⟩
end Go.Proofs.YtenhmecbebibkaaGreat

namespace Go.Proofs.YtenhmecbebibkaaGreat
open Go.RowKit

/-- The node at k and all below it, marked among those up to it. -/
def undI (ns : List Nd) (k : Nat) : List Bool := undL ns (k + 1) k
/-- The places that are marked among the first i. -/
def plTo (u : List Bool) (i : Nat) : List Int := ((List.range i).filter fun j => u.getD j false).map fun j : Nat => (j : Int)
theorem plTo_yes {u : List Bool} {i : Nat} (h : u.getD i false = true) : plTo u (i + 1) = plTo u i ++ [(i : Int)] := by
  unfold plTo
  rw [List.range_succ, List.filter_append, List.map_append]
  congr 1
  have e : List.filter (fun j => u.getD j false) [i] = [i] := by rw [List.filter_cons, h]; rfl
  rw [e]
  rfl
theorem plTo_no {u : List Bool} {i : Nat} (h : u.getD i false = false) : plTo u (i + 1) = plTo u i := by
  unfold plTo
  have e : List.filter (fun j => u.getD j false) [i] = [] := by rw [List.filter_cons, h]; rfl
  rw [List.range_succ, List.filter_append, e, List.append_nil]
theorem plTo_len (u : List Bool) (i : Nat) : (plTo u i).length ≤ i := by
  unfold plTo
  rw [List.length_map]
  have := List.length_filter_le (fun j => u.getD j false) (List.range i)
  rw [List.length_range] at this
  exact this
theorem ownsRow_low {a b : Nat} {e : TypeId} {s n : Nat} {v : Value} {l : List Value} {w : World} (h : w.ownsRow b e s v n l) (hab : a ≤ b) : w.ownsRow a e s v n l := by
  obtain ⟨h1, h2⟩ := h
  refine ⟨h1, ?_⟩
  rcases h2 with h2 | ⟨g, cap, cur, rfl, hb1, r⟩
  · exact .inl h2
  · exact .inr ⟨g, cap, cur, rfl, Nat.le_trans hab hb1, r⟩
def NuR (base : Nat) (W3 : World) (u : List Bool) (n : Nat) (v iv : Value) (wr : World) : Prop :=
  ∃ i : Nat, i ≤ n ∧ iv = .int .i64 i ∧ Hid (wr.ownsRow base 3 1 v (plTo u i).length ((plTo u i).map I64)) ∧ Hid (Below W3.heap.size W3 wr)

set_option maxRecDepth 100000 in
set_option maxHeartbeats 4000000 in
theorem nodesUnder_any (nv mv pv : Value) (ns : List Nd) (k : Nat) (w : World) (hN : NdsAt w nv ns) (hM : SlV mv) (hP : SlV pv) (hR : NdsRoom w nv ns.length) (hk : k < ns.length) (hl : ns.length ≤ 1048576) (hkx : ∀ x ∈ ns, x.kids.length ≤ 1048576)
    (hall : ∀ (j : Nat) (hj : j < ns.length), nodeB ns[j] (kinds ns j) = true) (hK : KidsLow ns) (hD : (deepsTo ns (k + 1)).getD k 0 ≠ 0) :
    Calls Tryz.prog 55 #[.agg #[nv, mv, pv], .int .i64 (k : Int)] w fun e w' => ∃ v, e = .returned v ∧ w'.ownsRow w.heap.size 3 1 v (plTo (undI ns k) (k + 1)).length ((plTo (undI ns k) (k + 1)).map I64) ∧ Below w.heap.size w w' := by
  have hb1 : Below w.heap.size w (w.alloc (.cells #[nv, mv, pv] 33)) := (Below.refl _ _).alloc (Nat.le_refl _) _
  have HN := hide (hN.stays hb1)
  have HRM := hide (hR.stays hb1)
  have HX := hide (Boxed.made w nv mv pv 33)
  have HB := hide hb1
  have CD := fun z h1 h2 => hide (deepOf_in nv mv pv ns k z h1 h2 hk hl hkx hall)
  clear hb1
  obtain ⟨ao, c, rfl, _⟩ := hN
  obtain ⟨mo, mn, mc, rfl⟩ := hM
  obtain ⟨po, pn, pc, rfl⟩ := hP
  have HKX := hide hkx
  have HK := hide hK
  have HKN := hide hk
  clear hkx hK hall
  obtain ⟨dd, edd⟩ : ∃ dd, (deepsTo ns (k + 1)).getD k 0 = dd := ⟨_, rfl⟩
  rw [edd] at CD hD
  have hdd : (dd == 0) = false := by simpa using hD
  clear edd
  obtain ⟨n, en⟩ : ∃ n, k + 1 = n := ⟨_, rfl⟩
  have EN := hide en
  have hkn' : k < n := by omega
  have hn : n ≤ 1048576 := by omega
  have HUI : Hid (undL ns n k = undI ns k) := by show _ = _; rw [undI, EN.out]
  rw [en]
  obtain ⟨UR, eUR⟩ : ∃ UR, undI ns k = UR := ⟨_, rfl⟩
  rw [eUR] at HUI ⊢
  clear eUR en
  go_enter Tryz.func55, Tryz.ntmps55
  go_wp2_with fail
  refine (unhide (CD _ HN.out HRM.out)).mono ?_
  rintro e W1 ⟨rfl, hb1⟩
  have HX1 := hide (HX.out.stays hb1)
  have HN1 := hide (HN.out.stays hb1)
  have HB1 := hide (HB.out.trans (hb1.mono HB.out.size))
  clear hb1 HX HN HB HRM CD hR
  obtain ⟨i0, hi, hz0, hz1, hz2⟩ := info_parts (Tryz.infoBool)
  obtain ⟨wm, hmk, hown, hgr⟩ := run_make_full (P := Tryz.prog) W1 W1.heap.size 84 4 i0 (.bool false) 1 Tryz.underlying84 hi hz0 hz1 .i64 .i64 n (by rw [hz2]; omega) (by unfold maxLen; omega) (Nat.le_refl _)
  have OW : Hid (UndZ W1 n (List.replicate n false) wm) := by
    have e := made_flat [.bool false] (by decide) n
    simp only [List.length_singleton] at e
    refine ⟨?_, (Below.refl _ _).grown hgr (Nat.le_refl _) (fun k hk => by cases hk), by simp⟩
    rw [← flat_oneB, ← e]
    exact hown
  have OW1 := hide (OW.out.step k)
  have hk0 : (0 : Int) ≤ (k : Int) := by omega
  have hkn : (k : Int) < (n : Int) := by omega
  obtain ⟨q0, f0⟩ := OW.out.cell hkn'
  clear hown hgr hi hz0 hz1 hz2
  have hnk : ((n : Nat) : Int) = (k : Int) + 1 := by have := EN.out; omega
  rw [hnk] at hmk
  clear hnk
  go_wp2
  clear q0 f0 hmk
  go_loopw [6] (fun iv wr => UndO W1 ns n k UR iv wr) (fun iv _ => (intOf iv + 1).toNat)
  case atStart => exact ⟨k + 1, _, Nat.le_refl _, by simp, OW1.out, HUI.out⟩
  case round =>
    clear OW1 OW
    obtain ⟨m, u, hm, rfl, HU, HR⟩ := hrel
    cases m with
    | zero =>
      have HF : Hid (u = UR) := HR.out
      rw [HF.out] at HU
      obtain ⟨W3, eW⟩ : ∃ W3, W3 = wr := ⟨_, rfl⟩
      subst eW
      clear HF HR
      have HB3 := hide (HB1.out.trans (HU.out.bel.mono HB1.out.size))
      have em1 : ((0 : Nat) : Int) - 1 = -1 := rfl
      rw [em1]
      clear em1
      go_wp2
      go_loopw [9, 51] (NuR W3.heap.size W3 UR n) (fun _ iv _ => n - (intOf iv).toNat)
      case atStart => exact ⟨0, by omega, rfl, ownsRow_empty W3 W3.heap.size 3 (Nat.le_refl _), (Below.refl _ _).alloc (Nat.le_refl _) _⟩
      case round =>
        obtain ⟨i, hi, rfl, HO, HB4⟩ := hrel
        by_cases hlt : i < n
        · have hlt' : (i : Int) < (n : Int) := by omega
          have hi0 : (0 : Int) ≤ (i : Int) := by omega
          have hq := (HB4.out.cell (p := ⟨W1.heap.size, i, none⟩) (HU.out.own.lt W1.heap.size rfl).2).trans (HU.out.cell hlt).1
          have hpl := plTo_len UR i
          cases hui : UR.getD i false with
          | false =>
            rw [hui] at hq
            have HPN := hide (plTo_no hui)
            clear hui hpl
            go_wp2
            go_roundw
            case rel => exact ⟨i + 1, by omega, by go_num, by rw [HPN.out]; exact HO.out, HB4.out⟩
            case measure => simp [intOf]; omega
          | true =>
            rw [hui] at hq
            have HPN := hide (plTo_yes hui)
            have hwz : W3.heap.size ≤ wr.heap.size := HB4.out.size
            have HWZ : Hid (w.heap.size ≤ wr.heap.size) := Nat.le_trans HB3.out.size hwz
            clear hui
            obtain ⟨L, eL⟩ : ∃ L, plTo UR i = L := ⟨_, rfl⟩
            rw [eL] at HO HPN hpl
            clear eL
            go_wp2_with (at_builtin; refine wpList_app1 rfl (.tmp 57) (.tmp 59) 50 rfl W3.heap.size 3 (.int .i64 0) 8 Tryz.underlying50 Tryz.infoInt rfl _ _ _ _ rfl HO.out rfl rfl (by unfold maxLen; omega) (by omega) hwz ?_)
            intro v5 w5 hown5 hb5
            have HO5 : Hid (w5.ownsRow W3.heap.size 3 1 v5 (plTo UR (i + 1)).length ((plTo UR (i + 1)).map I64)) := by
              rw [HPN.out, List.map_append, List.length_append]
              exact hown5
            have HB5 : Hid (Below W3.heap.size W3 w5) := HB4.out.trans hb5
            clear hown5 hb5 hq
            have RR : NuR W3.heap.size W3 UR n v5 (.int .i64 ((i : Int) + 1)) w5 := ⟨i + 1, by omega, by go_num, HO5.out, HB5.out⟩
            go_wp2
            go_roundw
            case rel => exact RR
            case measure => simp [intOf]; omega
        · have hlt' : ¬ (i : Int) < (n : Int) := by omega
          have e9 : i = n := by omega
          subst e9
          go_wp2
          go_ret
          exact ⟨_, rfl, ownsRow_low HO.out HB3.out.size, HB3.out.trans (HB4.out.mono HB3.out.size)⟩
    | succ i =>
      have ei : ((i + 1 : Nat) : Int) - 1 = (i : Int) := by omega
      rw [ei]
      have hin : i < n := by omega
      have hi0 : (0 : Int) ≤ (i : Int) := by omega
      have hi1 : (i : Int) < (n : Int) := by omega
      have hix : i < ns.length := by have := HKN.out; omega
      have hin2 : (i : Int) < (ns.length : Int) := by omega
      have HG : Hid (ns.getD i default = ns[i]) := by show _ = _; rw [List.getD_eq_getElem?_getD, List.getElem?_eq_getElem hix]; rfl
      have HKK : Hid (∀ y ∈ ns[i].kids, 0 ≤ y ∧ y < (n : Int)) := fun y hy => by
        have := HK.out i y (by rw [HG.out]; exact hy)
        omega
      have hkl := HKX.out _ (List.getElem_mem hix)
      have HUS : Hid (undF ns (undS ns u i) i = UR) := HR.out
      obtain ⟨x, ex⟩ : ∃ x, ns[i] = x := ⟨_, rfl⟩
      have EX := hide ex
      rw [ex] at HKK hkl HG
      obtain ⟨kl, ekl⟩ : ∃ kl, x.kids.length = kl := ⟨_, rfl⟩
      have EKL := hide ekl
      rw [ekl] at hkl
      clear ex ekl ei HR
      obtain ⟨q0, f0⟩ := HU.out.cell hin
      cases hui : u.getD i false with
      | false =>
        have HS2 : Hid (undS ns u i = u) := by show _ = _; rw [undS, hui]; rfl
        rw [hui] at q0
        clear hui
        go_wp2
        go_roundw
        case rel => exact ⟨i, u, by omega, by go_num, HU.out, by rw [← HS2.out]; exact HUS.out⟩
        case measure => simp [intOf]; try omega
      | true =>
        have HS2 : Hid (undS ns u i = markK u x.kids) := by show _ = _; rw [undS, hui, HG.out]; rfl
        rw [hui] at q0
        clear hui
        obtain ⟨c0, c1, c2, _⟩ := HX1.out.stays HU.out.bel
        obtain ⟨a', cc', p, kv, e5, hpa, hpb, hnode⟩ := HN1.out.node i hix
        injection e5 with e6 e7 e8
        subst e6
        have HKI := hide hnode.kids
        have d5 := (hnode.stays HU.out.bel hpb).c5
        rw [EX.out] at HKI
        obtain ⟨ko, kc, rfl, _⟩ := HKI.out
        rw [EKL.out] at d5 HKI
        clear hnode e7 e8
        go_wp2
        clear c0 c1 c2 q0 f0 d5
        go_loopw [40] (fun jv z => UndI W1 n u x.kids jv z) (fun jv _ => kl - (intOf jv).toNat)
        case atStart => exact ⟨0, by omega, rfl, HU.out⟩
        case round =>
          clear HU
          obtain ⟨j, hj, rfl, HV⟩ := hrel
          rw [EKL.out] at hj
          by_cases hltj : j < kl
          · have hltj' : (j : Int) < (kl : Int) := by omega
            have hj0 : (0 : Int) ≤ (j : Int) := by omega
            have hjx : j < x.kids.length := by rw [EKL.out]; exact hltj
            obtain ⟨ko', kc', e5, hkc⟩ := HKI.out.stays HV.out.bel
            injection e5 with e6 e7 e8
            subst e6
            obtain ⟨b, rfl, _, hy⟩ := hkc j hjx
            have HT : Hid (markK u (x.kids.take (j + 1)) = (markK u (x.kids.take j)).set x.kids[j].toNat true) := by
              show _ = _
              rw [List.take_succ_eq_append_getElem hjx, markK_snoc]
            obtain ⟨hy0, hy1⟩ := HKK.out _ (List.getElem_mem hjx)
            obtain ⟨t, ht⟩ : ∃ t : Nat, x.kids[j] = (t : Int) := ⟨x.kids[j].toNat, by omega⟩
            rw [ht] at hy HT hy0 hy1
            rw [Int.toNat_natCast] at HT
            have htn : t < n := by omega
            obtain ⟨r0, g0⟩ := HV.out.cell htn
            have HST := hide (HV.out.step t)
            clear hkc ht e7 e8
            go_wp2
            go_roundw
            case rel => exact ⟨j + 1, by rw [EKL.out]; omega, by go_num, by rw [HT.out]; exact HST.out⟩
            case measure => simp [intOf]; omega
          · have hltj' : ¬ (j : Int) < (kl : Int) := by omega
            have HE : Hid (x.kids.take j = x.kids) := List.take_of_length_le (by rw [EKL.out]; omega)
            rw [HE.out] at HV
            go_wp2
            go_roundw
            case rel => exact ⟨i, markK u x.kids, by omega, by go_num, HV.out, by rw [← HS2.out]; exact HUS.out⟩
            case measure => simp [intOf]; try omega
end Go.Proofs.YtenhmecbebibkaaGreat

namespace Go.Proofs.YtenhmecbebibkaaGreat
open Go.RowKit

/-- The word that stands for what comes out of an entry. -/
def resultN : ByteArray := ⟨#[114, 101, 115, 117, 108, 116]⟩
/-- No two are the same, and none is that word. -/
noncomputable def unlikeB (xs : List ByteArray) : Bool := @decide (xs.Nodup ∧ resultN ∉ xs) (Classical.propDecidable _)
theorem unlike_nil : unlikeB [] = true := by simp [unlikeB]
theorem unlike_snoc (ys : List ByteArray) (x : ByteArray) : unlikeB (ys ++ [x]) = true ↔ unlikeB ys = true ∧ x ≠ resultN ∧ x ∉ ys := by
  simp only [unlikeB, decide_eq_true_eq, List.nodup_append, List.mem_append, List.mem_singleton]
  constructor
  · rintro ⟨⟨h1, _, h3⟩, h4⟩
    exact ⟨⟨h1, fun h => h4 (Or.inl h)⟩, fun e => h4 (Or.inr e.symm), fun h => h3 x h x rfl rfl⟩
  · rintro ⟨⟨h1, h2⟩, h3, h4⟩
    refine ⟨⟨h1, by simp, fun a ha b hb e => ?_⟩, fun h => ?_⟩
    · subst hb; subst e; exact h4 ha
    · rcases h with h | h
      · exact h2 h
      · exact h3 h.symm
theorem unlike_perm {xs ys : List ByteArray} (h : xs.Perm ys) : unlikeB xs = unlikeB ys := by
  unfold unlikeB
  exact decide_eq_decide.2 (and_congr h.nodup_iff (not_congr h.mem_iff))
theorem unlike_take {xs : List ByteArray} {i : Nat} (h : unlikeB (xs.take i) = false) : unlikeB xs = false := by
  rw [Bool.eq_false_iff] at h ⊢
  intro h2
  apply h
  simp only [unlikeB, decide_eq_true_eq] at h2 ⊢
  exact ⟨h2.1.sublist (List.take_sublist i xs), fun q => h2.2 (List.mem_of_mem_take q)⟩
theorem unlike_step {xs : List ByteArray} {i : Nat} (hi : i < xs.length) (h : unlikeB (xs.take i) = true) (h1 : xs[i] ≠ resultN) (h2 : xs[i] ∉ xs.take i) : unlikeB (xs.take (i + 1)) = true := by
  rw [List.take_succ_eq_append_getElem hi]
  exact (unlike_snoc _ _).2 ⟨h, h1, h2⟩
theorem unlike_stop {xs : List ByteArray} {i : Nat} (hi : i < xs.length) (h : xs[i] = resultN ∨ xs[i] ∈ xs.take i) : unlikeB xs = false := by
  apply unlike_take (i := i + 1)
  rw [List.take_succ_eq_append_getElem hi, Bool.eq_false_iff]
  intro q
  obtain ⟨_, q1, q2⟩ := (unlike_snoc _ _).1 q
  rcases h with h | h
  · exact q1 h
  · exact q2 h
theorem mem_take_of {xs : List ByteArray} {i k : Nat} (hk : k < i) (hx : k < xs.length) : xs[k] ∈ xs.take i :=
  List.mem_take_iff_getElem.2 ⟨k, by omega, rfl⟩
theorem not_mem_take {xs : List ByteArray} {i : Nat} {x : ByteArray} (h : ∀ j, j < i → xs[j]? ≠ some x) : x ∉ xs.take i := by
  intro q
  obtain ⟨j, hj, e⟩ := List.mem_take_iff_getElem.1 q
  exact h j (by omega) (by rw [List.getElem?_eq_getElem (by omega), e])
/-- Is the name among these? -/
def memB (ks : List ByteArray) (s : ByteArray) : Bool := ks.any fun x => decide (x = s)
theorem memB_iff {ks : List ByteArray} {s : ByteArray} : memB ks s = true ↔ s ∈ ks := by
  rw [memB, List.any_eq_true]
  exact ⟨fun ⟨x, h, e⟩ => of_decide_eq_true e ▸ h, fun h => ⟨s, h, decide_eq_true rfl⟩⟩
theorem memB_no {ks : List ByteArray} {s : ByteArray} : memB ks s = false ↔ s ∉ ks := by
  rw [Bool.eq_false_iff]
  exact not_congr memB_iff
theorem memB_congr {ks ls : List ByteArray} {s t : ByteArray} (h : s ∈ ks ↔ t ∈ ls) : memB ks s = memB ls t := Bool.eq_iff_iff.2 (memB_iff.trans (h.trans memB_iff.symm))
end Go.Proofs.YtenhmecbebibkaaGreat
