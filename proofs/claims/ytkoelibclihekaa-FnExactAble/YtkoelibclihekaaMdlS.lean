/-
  The shape of a Model that was copied: each cell keeps its kind.
-/
import Derived.Test.YtkoelibclihekaaMdlP
import Derived.Test.YtkoelibclihekaaActR
namespace Go.Proofs.Ytkoelibclihekaa
open Go.RowKit

structure MdSh (B T : Nat) (w : World) (v0 v1 v2 v3 v4 v5 v6 v7 : Value) (x : Md) : Prop where
  s0 : ShR B T 6 (fNod B T) x.prog.nodes.length w v0
  s1 : ShR B T 4 (fMon B T) x.prog.mons.length w v1
  s2 : ShR B T 4 (fPro B T) x.prog.pros.length w v2
  s3 : ShR B T 12 (fAc B T) x.acts.length w v3
  s4 : ShR B T 3 (fGt B T) x.gates.length w v4
  s5 : ShR B T 2 (fEv B T) x.vars.length w v5
  s6 : ShR B T 1 fInt x.input.length w v6
  s7 : ShR B T 3 fVt x.events.length w v7
theorem MdSh.turn {B T B' T' : Nat} {w w' : World} {v0 v1 v2 v3 v4 v5 v6 v7 : Value} {x : Md} (h : MdSh B T w v0 v1 v2 v3 v4 v5 v6 v7 x) (ht : Turn B' T' w w') : MdSh B T w' v0 v1 v2 v3 v4 v5 v6 v7 x :=
  ⟨h.s0.turn ht fun i _ => fNod_s B T i, h.s1.turn ht fun i _ => fMon_s B T i, h.s2.turn ht fun i _ => fPro_s B T i, h.s3.turn ht fun i _ => fAc_s B T i, h.s4.turn ht fun i _ => fGt_s B T i, h.s5.turn ht fun i _ => fEv_s B T i, h.s6.turn ht fun i _ => fInt_s i, h.s7.turn ht fun i _ => fVt_s i⟩
theorem MdSh.stays {B T : Nat} {w w' : World} {v0 v1 v2 v3 v4 v5 v6 v7 : Value} {x : Md} (h : MdSh B T w v0 v1 v2 v3 v4 v5 v6 v7 x) (hb : Below w.heap.size w w') : MdSh B T w' v0 v1 v2 v3 v4 v5 v6 v7 x := h.turn (T' := 0) (Turn.below hb (Nat.le_refl _))
theorem MdC.sh {base T : Nat} {w : World} {v0 v1 v2 v3 v4 v5 v6 v7 : Value} {x : Md} (h : MdC base w [v0, v1, v2, v3, v4, v5, v6, v7, .bool x.stopped] x) (hT : w.heap.size ≤ T) (hL : MdLen x) : MdSh base T w v0 v1 v2 v3 v4 v5 v6 v7 x := by
  obtain ⟨u0, u1, u2, u3, u4, u5, u6, u7, e, ⟨p0, p1, p2⟩, h3, h4, h5, h6, h7⟩ := h.c
  simp at e
  obtain ⟨rfl, rfl, rfl, rfl, rfl, rfl, rfl, rfl⟩ := e
  exact ⟨p0.sh hT hL.p.kids, p1.sh hT hL.p.mon, p2.sh hT hL.p.pro, h3.sh hT hL.i3, h4.sh hT hL.i4, h5.sh hT hL.i5, CellsIn.shI h6 hT, h7.sh hT⟩
end Go.Proofs.Ytkoelibclihekaa

namespace Go.Proofs.Ytkoelibclihekaa
open Go.RowKit

set_option maxRecDepth 100000 in
set_option maxHeartbeats 8000000 in
theorem turnActorT_any {B T n : Nat} (v : Value) (k0 : Int) (w : World) (h : ShR B T 12 (fAc B T) n w v) (hn : n ≤ 1048576) (hB : B ≤ w.heap.size) (hk0 : 0 < k0) (hk1 : k0 ≤ 1000000000000000) :
    Calls Try.prog 34 #[v, .int .i64 k0] w fun e w' => ∃ k, e = .returned (.int .i64 k) ∧ k0 ≤ k ∧ k ≤ k0 + (n : Int) * 25165824 ∧ Turn B T w w' := by
  have H := hide h
  obtain ⟨ao, c, rfl, _⟩ := h
  have HB := hide hB
  go_enter Try.func34, Try.ntmps34
  go_wp2
  go_loopw [5, 1] (fun iv kv wr => TuR B T 12 25165824 (fAc B T) n (.slice ao n c) k0 w iv kv wr) (fun iv _ _ => n - (intOf iv).toNat)
  case atStart => exact ⟨0, k0, Nat.zero_le _, rfl, rfl, Int.le_refl _, by omega, Turn.refl _ _ _, H.out⟩
  case round =>
    clear H
    obtain ⟨j, k, hj, rfl, rfl, hka, hkb, TU, SH⟩ := hrel
    by_cases hlt : j < n
    · have hi0 : (0 : Int) ≤ (j : Int) := by omega
      have hi1 : (j : Int) < (n : Int) := by omega
      have hkc : k ≤ 10000000000000000 := by omega
      have hkd : 0 < k := by omega
      obtain ⟨g, rfl⟩ : ∃ g, ao = some ⟨g, 0, none⟩ := by
        obtain ⟨ao2, c2, e, hc⟩ := SH.out
        injection e with e1 _ _
        obtain ⟨g, e2, _⟩ := hc j hlt
        exact ⟨g, by rw [e1, e2]⟩
      have HLT := hide hlt
      have HK0 := hide hka
      have HK1 := hide hkb
      clear hka hkb
      obtain ⟨⟨u, hc, hu⟩, hf⟩ := SH.out.look (i := 0) (o := j * 12) hlt (by decide) (by omega)
      obtain ⟨l, hl, hs⟩ : IsR B T 1 fInt _ u := hu
      have RS := hide hs
      obtain ⟨ro, rc, rfl, _⟩ := hs
      clear hf
      go_wp2_with fail
      refine (turnI_any _ _ _ RS.out hl (Nat.le_trans HB.out TU.out.bel.size) (by omega) (by omega)).mono ?_
      rintro e z0 ⟨k0, rfl, ha, hb, ht⟩
      replace TU := hide (TU.out.trans ht)
      replace SH := hide (SH.out.turn ht (fun i _ => fAc_s B T i))
      have G0 := hide (show k ≤ k0 ∧ k0 ≤ k + 2097152 by constructor <;> omega)
      have hk0c : k0 ≤ 10000000003000000 := by omega
      have hk0d : 0 < k0 := by omega
      clear ht RS hc ha hb hl
      obtain ⟨⟨u, hc, hu⟩, hf⟩ := SH.out.look (i := 1) (o := j * 12 + 1) hlt (by decide) (by omega)
      obtain ⟨l, hl, hs⟩ : IsR B T 1 fStr _ u := hu
      have RS := hide hs
      obtain ⟨ro, rc, rfl, _⟩ := hs
      clear hf
      go_wp2_with fail
      refine (turnT_any _ _ _ RS.out hl (Nat.le_trans HB.out TU.out.bel.size) (by omega) (by omega)).mono ?_
      rintro e z1 ⟨k1, rfl, ha, hb, ht⟩
      replace TU := hide (TU.out.trans ht)
      replace SH := hide (SH.out.turn ht (fun i _ => fAc_s B T i))
      have G1 := hide (show k0 ≤ k1 ∧ k1 ≤ k0 + 2097152 by constructor <;> omega)
      have hk1c : k1 ≤ 10000000006000000 := by omega
      have hk1d : 0 < k1 := by omega
      clear ht RS hc ha hb hl
      obtain ⟨⟨u, hc, hu⟩, hf⟩ := SH.out.look (i := 2) (o := j * 12 + 1 + 1) hlt (by decide) (by omega)
      obtain ⟨l, hl, hs⟩ : IsR B T 1 fInt _ u := hu
      have RS := hide hs
      obtain ⟨ro, rc, rfl, _⟩ := hs
      clear hf
      go_wp2_with fail
      refine (turnI_any _ _ _ RS.out hl (Nat.le_trans HB.out TU.out.bel.size) (by omega) (by omega)).mono ?_
      rintro e z2 ⟨k2, rfl, ha, hb, ht⟩
      replace TU := hide (TU.out.trans ht)
      replace SH := hide (SH.out.turn ht (fun i _ => fAc_s B T i))
      have G2 := hide (show k1 ≤ k2 ∧ k2 ≤ k1 + 2097152 by constructor <;> omega)
      have hk2c : k2 ≤ 10000000009000000 := by omega
      have hk2d : 0 < k2 := by omega
      clear ht RS hc ha hb hl
      obtain ⟨⟨u, hc, hu⟩, hf⟩ := SH.out.look (i := 3) (o := j * 12 + 3) hlt (by decide) (by omega)
      clear hu
      have ht := SH.out.num (i := 3) (o := j * 12 + 3) hlt (by decide) (by omega) rfl k2
      replace TU := hide (TU.out.trans ht)
      replace SH := hide (SH.out.turn ht (fun i _ => fAc_s B T i))
      clear ht
      have hwk : wrap64 (k2 + 1) = k2 + 1 := by unfold wrap64; omega
      go_upto_region 9 with fail
      obtain ⟨Y3, hY⟩ : ∃ Y, z2.setCell ⟨g, j * 12 + 3, none⟩ (.int .i64 k2) = Y := ⟨_, rfl⟩
      rw [hY] at TU SH ⊢
      clear hY hc hf hwk
      obtain ⟨k3, ek3⟩ : ∃ q, k2 + 1 = q := ⟨_, rfl⟩
      rw [ek3]
      have G3 := hide (show k2 ≤ k3 ∧ k3 ≤ k2 + 2097152 by constructor <;> omega)
      have hk3c : k3 ≤ 10000000012000000 := by omega
      have hk3d : 0 < k3 := by omega
      clear ek3
      obtain ⟨⟨u, hc, hu⟩, hf⟩ := SH.out.look (i := 4) (o := j * 12 + 4) hlt (by decide) (by omega)
      obtain ⟨l, hl, hs⟩ : IsR B T 1 fInt _ u := hu
      have RS := hide hs
      obtain ⟨ro, rc, rfl, _⟩ := hs
      clear hf
      go_wp2_with fail
      refine (turnI_any _ _ _ RS.out hl (Nat.le_trans HB.out TU.out.bel.size) (by omega) (by omega)).mono ?_
      rintro e z4 ⟨k4, rfl, ha, hb, ht⟩
      replace TU := hide (TU.out.trans ht)
      replace SH := hide (SH.out.turn ht (fun i _ => fAc_s B T i))
      have G4 := hide (show k3 ≤ k4 ∧ k4 ≤ k3 + 2097152 by constructor <;> omega)
      have hk4c : k4 ≤ 10000000015000000 := by omega
      have hk4d : 0 < k4 := by omega
      clear ht RS hc ha hb hl
      obtain ⟨⟨u, hc, hu⟩, hf⟩ := SH.out.look (i := 5) (o := j * 12 + 4 + 1) hlt (by decide) (by omega)
      obtain ⟨l, hl, hs⟩ : IsR B T 1 fStr _ u := hu
      have RS := hide hs
      obtain ⟨ro, rc, rfl, _⟩ := hs
      clear hf
      go_wp2_with fail
      refine (turnT_any _ _ _ RS.out hl (Nat.le_trans HB.out TU.out.bel.size) (by omega) (by omega)).mono ?_
      rintro e z5 ⟨k5, rfl, ha, hb, ht⟩
      replace TU := hide (TU.out.trans ht)
      replace SH := hide (SH.out.turn ht (fun i _ => fAc_s B T i))
      have G5 := hide (show k4 ≤ k5 ∧ k5 ≤ k4 + 2097152 by constructor <;> omega)
      have hk5c : k5 ≤ 10000000018000000 := by omega
      have hk5d : 0 < k5 := by omega
      clear ht RS hc ha hb hl
      obtain ⟨⟨u, hc, hu⟩, hf⟩ := SH.out.look (i := 6) (o := j * 12 + 4 + 1 + 1) hlt (by decide) (by omega)
      obtain ⟨l, hl, hs⟩ : IsR B T 1 fInt _ u := hu
      have RS := hide hs
      obtain ⟨ro, rc, rfl, _⟩ := hs
      clear hf
      go_wp2_with fail
      refine (turnI_any _ _ _ RS.out hl (Nat.le_trans HB.out TU.out.bel.size) (by omega) (by omega)).mono ?_
      rintro e z6 ⟨k6, rfl, ha, hb, ht⟩
      replace TU := hide (TU.out.trans ht)
      replace SH := hide (SH.out.turn ht (fun i _ => fAc_s B T i))
      have G6 := hide (show k5 ≤ k6 ∧ k6 ≤ k5 + 2097152 by constructor <;> omega)
      have hk6c : k6 ≤ 10000000021000000 := by omega
      have hk6d : 0 < k6 := by omega
      clear ht RS hc ha hb hl
      obtain ⟨⟨u, hc, hu⟩, hf⟩ := SH.out.look (i := 7) (o := j * 12 + 4 + 3) hlt (by decide) (by omega)
      clear hu
      have ht := SH.out.num (i := 7) (o := j * 12 + 4 + 3) hlt (by decide) (by omega) rfl k6
      replace TU := hide (TU.out.trans ht)
      replace SH := hide (SH.out.turn ht (fun i _ => fAc_s B T i))
      clear ht
      have hwk : wrap64 (k6 + 1) = k6 + 1 := by unfold wrap64; omega
      go_upto_region 14 with fail
      obtain ⟨Y7, hY⟩ : ∃ Y, z6.setCell ⟨g, j * 12 + 4 + 3, none⟩ (.int .i64 k6) = Y := ⟨_, rfl⟩
      rw [hY] at TU SH ⊢
      clear hY hc hf hwk
      obtain ⟨k7, ek7⟩ : ∃ q, k6 + 1 = q := ⟨_, rfl⟩
      rw [ek7]
      have G7 := hide (show k6 ≤ k7 ∧ k7 ≤ k6 + 2097152 by constructor <;> omega)
      have hk7c : k7 ≤ 10000000024000000 := by omega
      have hk7d : 0 < k7 := by omega
      clear ek7
      obtain ⟨⟨u, hc, hu⟩, hf⟩ := SH.out.look (i := 8) (o := j * 12 + 8) hlt (by decide) (by omega)
      clear hu
      have ht := SH.out.num (i := 8) (o := j * 12 + 8) hlt (by decide) (by omega) rfl k7
      replace TU := hide (TU.out.trans ht)
      replace SH := hide (SH.out.turn ht (fun i _ => fAc_s B T i))
      clear ht
      have hwk : wrap64 (k7 + 1) = k7 + 1 := by unfold wrap64; omega
      go_upto_region 16 with fail
      obtain ⟨Y8, hY⟩ : ∃ Y, Y7.setCell ⟨g, j * 12 + 8, none⟩ (.int .i64 k7) = Y := ⟨_, rfl⟩
      rw [hY] at TU SH ⊢
      clear hY hc hf hwk
      obtain ⟨k8, ek8⟩ : ∃ q, k7 + 1 = q := ⟨_, rfl⟩
      rw [ek8]
      have G8 := hide (show k7 ≤ k8 ∧ k8 ≤ k7 + 2097152 by constructor <;> omega)
      have hk8c : k8 ≤ 10000000027000000 := by omega
      have hk8d : 0 < k8 := by omega
      clear ek8
      obtain ⟨⟨u, hc, hu⟩, hf⟩ := SH.out.look (i := 9) (o := j * 12 + 9) hlt (by decide) (by omega)
      clear hu
      have ht := SH.out.num (i := 9) (o := j * 12 + 9) hlt (by decide) (by omega) rfl k8
      replace TU := hide (TU.out.trans ht)
      replace SH := hide (SH.out.turn ht (fun i _ => fAc_s B T i))
      clear ht
      have hwk : wrap64 (k8 + 1) = k8 + 1 := by unfold wrap64; omega
      go_upto_region 18 with fail
      obtain ⟨Y9, hY⟩ : ∃ Y, Y8.setCell ⟨g, j * 12 + 9, none⟩ (.int .i64 k8) = Y := ⟨_, rfl⟩
      rw [hY] at TU SH ⊢
      clear hY hc hf hwk
      obtain ⟨k9, ek9⟩ : ∃ q, k8 + 1 = q := ⟨_, rfl⟩
      rw [ek9]
      have G9 := hide (show k8 ≤ k9 ∧ k9 ≤ k8 + 2097152 by constructor <;> omega)
      have hk9c : k9 ≤ 10000000030000000 := by omega
      have hk9d : 0 < k9 := by omega
      clear ek9
      obtain ⟨⟨u, hc, hu⟩, hf⟩ := SH.out.look (i := 10) (o := j * 12 + 10) hlt (by decide) (by omega)
      clear hu
      have ht := SH.out.bol (i := 10) (o := j * 12 + 10) hlt (by decide) (by omega) rfl (k9 % 3 == 0)
      replace TU := hide (TU.out.trans ht)
      replace SH := hide (SH.out.turn ht (fun i _ => fAc_s B T i))
      clear ht
      have hwk : wrap64 (k9 + 1) = k9 + 1 := by unfold wrap64; omega
      go_upto_region 20 with fail
      obtain ⟨Y10, hY⟩ : ∃ Y, Y9.setCell ⟨g, j * 12 + 10, none⟩ (.bool (k9 % 3 == 0)) = Y := ⟨_, rfl⟩
      rw [hY] at TU SH ⊢
      clear hY hc hf hwk
      obtain ⟨k10, ek10⟩ : ∃ q, k9 + 1 = q := ⟨_, rfl⟩
      rw [ek10]
      have G10 := hide (show k9 ≤ k10 ∧ k10 ≤ k9 + 2097152 by constructor <;> omega)
      have hk10c : k10 ≤ 10000000033000000 := by omega
      have hk10d : 0 < k10 := by omega
      clear ek10
      obtain ⟨⟨u, hc, hu⟩, hf⟩ := SH.out.look (i := 11) (o := j * 12 + 11) hlt (by decide) (by omega)
      clear hu
      have ht := SH.out.bol (i := 11) (o := j * 12 + 11) hlt (by decide) (by omega) rfl (k10 % 3 == 0)
      replace TU := hide (TU.out.trans ht)
      replace SH := hide (SH.out.turn ht (fun i _ => fAc_s B T i))
      clear ht
      have hwk : wrap64 (k10 + 1) = k10 + 1 := by unfold wrap64; omega
      go_upto_region 3 with fail
      obtain ⟨Y11, hY⟩ : ∃ Y, Y10.setCell ⟨g, j * 12 + 11, none⟩ (.bool (k10 % 3 == 0)) = Y := ⟨_, rfl⟩
      rw [hY] at TU SH ⊢
      clear hY hc hf hwk
      obtain ⟨k11, ek11⟩ : ∃ q, k10 + 1 = q := ⟨_, rfl⟩
      rw [ek11]
      have G11 := hide (show k10 ≤ k11 ∧ k11 ≤ k10 + 2097152 by constructor <;> omega)
      have hk11c : k11 ≤ 10000000036000000 := by omega
      have hk11d : 0 < k11 := by omega
      clear ek11
      go_wp2
      go_roundw
      case rel => exact ⟨j + 1, k11, by omega, by go_num, by first | rfl | go_num, by have := HK0.out; have := G0.out; have := G1.out; have := G2.out; have := G3.out; have := G4.out; have := G5.out; have := G6.out; have := G7.out; have := G8.out; have := G9.out; have := G10.out; have := G11.out; omega, by have := HK1.out; have := G0.out; have := G1.out; have := G2.out; have := G3.out; have := G4.out; have := G5.out; have := G6.out; have := G7.out; have := G8.out; have := G9.out; have := G10.out; have := G11.out; omega, TU.out, SH.out⟩
      case measure => simp [intOf]; omega
    · have hi1 : ¬ (j : Int) < (n : Int) := by omega
      have e : j = n := by omega
      subst e
      go_wp2
      go_ret
      exact ⟨_, rfl, hka, by omega, TU.out⟩
end Go.Proofs.Ytkoelibclihekaa
