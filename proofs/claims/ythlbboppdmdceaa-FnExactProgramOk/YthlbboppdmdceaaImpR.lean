/-
  Walks: no list of a program too long or too short, by the program.
-/
import Derived.Test.YthlbboppdmdceaaTreeQ
import Derived.Test.YthlbboppdmdceaaTreeP
import Derived.Handy
namespace Go.Proofs.Ythlbboppdmdceaa
open Go.RowKit

def fitM (x : Mo) : Bool := decide (x.vars.length ≤ 3) && decide (x.queues.length ≤ 2) && (decide (1 ≤ x.ents.length) && decide (x.ents.length ≤ 3))
def fitP (x : Pr) : Bool := decide (x.uses.length ≤ 3) && decide (x.vars.length ≤ 3)
def fitsB (n : Nat) (ms : List Mo) (ps : List Pr) : Bool := (decide (n ≤ 160) && decide (ms.length ≤ 3)) && (decide (1 ≤ ps.length) && decide (ps.length ≤ 4)) && (ms.all fitM && ps.all fitP)
def FitR {α : Type} (W : World) (xs : List α) (q : α → Bool) (iv : Value) (wr : World) : Prop :=
  ∃ i : Nat, i ≤ xs.length ∧ iv = .int .i64 i ∧ Hid (Below W.heap.size W wr) ∧ Hid (∀ (j : Nat) (x : α), j < i → xs[j]? = some x → q x = true)
theorem FitR.no {α : Type} {q : α → Bool} {l : List α} {i : Nat} {x : α} (h : l[i]? = some x) (hq : q x = false) : l.all q = false := by
  rw [List.all_eq_false]
  exact ⟨x, List.mem_of_getElem? h, by simp [hq]⟩
theorem FitR.all {α : Type} {q : α → Bool} {l : List α} {i : Nat} (h : ∀ (j : Nat) (x : α), j < i → l[j]? = some x → q x = true) (hi : l.length ≤ i) : l.all q = true := by
  rw [List.all_eq_true]
  intro x hx
  obtain ⟨j, hj⟩ := List.mem_iff_getElem?.1 hx
  exact h j x (by have := (List.getElem?_eq_some_iff.1 hj).1; omega) hj

set_option maxRecDepth 100000 in
set_option maxHeartbeats 4000000 in
theorem fits_any (nv mv pv : Value) (ns : List Nd) (ms : List Mo) (ps : List Pr) (w : World) (hN : NdsAt w nv ns) (hM : MosAt w mv ms) (hP : PrsAt w pv ps) :
    Calls Try.prog 35 #[.agg #[nv, mv, pv]] w fun e w' => e = .returned (.bool (fitsB ns.length ms ps)) ∧ Below w.heap.size w w' := by
  have hb1 : Below w.heap.size w (w.alloc (.cells #[nv, mv, pv] 33)) := (Below.refl _ _).alloc (Nat.le_refl _) _
  have HM := hide (hM.stays hb1)
  have HP := hide (hP.stays hb1)
  have HX := hide (Boxed.made w nv mv pv 33)
  have HB := hide hb1
  clear hb1
  obtain ⟨ao, c, rfl, _⟩ := hN
  obtain ⟨mo, mc, rfl, _⟩ := hM
  obtain ⟨po, pc, rfl, _⟩ := hP
  obtain ⟨n, en⟩ : ∃ n, ns.length = n := ⟨_, rfl⟩
  rw [en] at HM HP HX HB ⊢
  obtain ⟨m, em⟩ : ∃ m, ms.length = m := ⟨_, rfl⟩
  have EM := hide em
  obtain ⟨q, eq⟩ : ∃ q, ps.length = q := ⟨_, rfl⟩
  have EQ := hide eq
  rw [em, eq] at HM HP HX HB ⊢
  have HU : Hid (fitsB n ms ps = ((decide (n ≤ 160) && decide (m ≤ 3)) && (decide (1 ≤ q) && decide (q ≤ 4)) && (ms.all fitM && ps.all fitP))) := by show _ = _; rw [fitsB, em, eq]
  clear en em eq
  by_cases h1 : n ≤ 160
  case neg =>
    have h1' : (160 : Int) < (n : Int) := by omega
    have HF : Hid (fitsB n ms ps = false) := by show _ = _; rw [HU.out]; simp [h1]
    go_enter Try.func35, Try.ntmps35
    (
  go_wp2;
  go_ret;
  exact ⟨by rw [HF.out]; rfl, HB.out⟩)
  have h1' : ¬ (160 : Int) < (n : Int) := by omega
  by_cases h2 : m ≤ 3
  case neg =>
    have h2' : (3 : Int) < (m : Int) := by omega
    have HF : Hid (fitsB n ms ps = false) := by show _ = _; rw [HU.out]; simp [h2]
    go_enter Try.func35, Try.ntmps35
    (
  go_wp2;
  go_ret;
  exact ⟨by rw [HF.out]; rfl, HB.out⟩)
  have h2' : ¬ (3 : Int) < (m : Int) := by omega
  by_cases h3 : 1 ≤ q
  case neg =>
    have h3' : (q : Int) < 1 := by omega
    have HF : Hid (fitsB n ms ps = false) := by show _ = _; rw [HU.out]; simp [h3]
    go_enter Try.func35, Try.ntmps35
    (
  go_wp2;
  go_ret;
  exact ⟨by rw [HF.out]; rfl, HB.out⟩)
  have h3' : ¬ (q : Int) < 1 := by omega
  by_cases h4 : q ≤ 4
  case neg =>
    have h4' : (4 : Int) < (q : Int) := by omega
    have HF : Hid (fitsB n ms ps = false) := by show _ = _; rw [HU.out]; simp [h4]
    go_enter Try.func35, Try.ntmps35
    (
  go_wp2;
  go_ret;
  exact ⟨by rw [HF.out]; rfl, HB.out⟩)
  have h4' : ¬ (4 : Int) < (q : Int) := by omega
  have HV : Hid (fitsB n ms ps = (ms.all fitM && ps.all fitP)) := by show _ = _; rw [HU.out]; simp [h1, h2, h3, h4]
  clear HU
  go_enter Try.func35, Try.ntmps35
  go_wp2
  obtain ⟨W1, hW⟩ : ∃ W1, w.alloc (.cells #[.slice ao n c, .slice mo m mc, .slice po q pc] 33) = W1 := ⟨_, rfl⟩
  rw [hW] at HM HP HX HB ⊢
  clear hW
  go_loopw [30] (FitR W1 ms fitM) (fun iv _ => m - (intOf iv).toNat)
  case atStart => exact ⟨0, by omega, rfl, Below.refl _ _, fun j x hj => absurd hj (Nat.not_lt_zero j)⟩
  case round =>
    obtain ⟨i, hi, rfl, HB2, HA⟩ := hrel
    rw [EM.out] at hi
    obtain ⟨c0, c1, c2, _⟩ := HX.out.stays HB2.out
    by_cases hlt : i < m
    · have hlt' : (i : Int) < (m : Int) := by omega
      have hi0 : (0 : Int) ≤ (i : Int) := by omega
      have hix : i < ms.length := by rw [EM.out]; exact hlt
      have EX : Hid (ms[i]? = some ms[i]) := List.getElem?_eq_getElem hix
      obtain ⟨mo', cc, e5, hc⟩ := HM.out.stays HB2.out
      injection e5 with e6 e7 e8
      subst e6
      obtain ⟨a, vv, qv, ev, rfl, hab, hcell⟩ := hc i hix
      obtain ⟨p, hpa⟩ : ∃ p, a.add (i * 4) = p := ⟨_, rfl⟩
      rw [hpa] at hcell
      obtain ⟨x, ex⟩ : ∃ x, ms[i] = x := ⟨_, rfl⟩
      rw [ex] at hcell EX
      obtain ⟨d0, d1, d2, d3, hv1, hv2, hv3⟩ := hcell
      obtain ⟨vo, vc, rfl, _⟩ := hv1
      obtain ⟨qo, qc, rfl, _⟩ := hv2
      obtain ⟨eo, ec, rfl, _⟩ := hv3
      clear ex hc e7 e8
      have HUM : Hid (fitM x = (decide (x.vars.length ≤ 3) && decide (x.queues.length ≤ 2) && (decide (1 ≤ x.ents.length) && decide (x.ents.length ≤ 3)))) := rfl
      obtain ⟨s1, es1⟩ : ∃ s1, x.vars.length = s1 := ⟨_, rfl⟩
      obtain ⟨s2, es2⟩ : ∃ s2, x.queues.length = s2 := ⟨_, rfl⟩
      obtain ⟨s3, es3⟩ : ∃ s3, x.ents.length = s3 := ⟨_, rfl⟩
      rw [es1] at d1 HUM
      rw [es2] at d2 HUM
      rw [es3] at d3 HUM
      have HB3 : Hid (Below W1.heap.size W1 (wr.alloc (.cells #[.string x.name, .slice vo s1 vc, .slice qo s2 qc, .slice eo s3 ec] 77))) := HB2.out.alloc HB2.out.size _
      clear es1 es2 es3
      by_cases g1 : s1 ≤ 3
      case neg =>
        have g1' : (3 : Int) < (s1 : Int) := by omega
        have HF : Hid (fitsB n ms ps = false) := by show _ = _; rw [HV.out, FitR.no EX.out (by rw [HUM.out]; simp [g1])]; rfl
        go_wp2
        go_ret
        exact ⟨by rw [HF.out]; rfl, HB.out.trans (HB3.out.mono HB.out.size)⟩
      have g1' : ¬ (3 : Int) < (s1 : Int) := by omega
      by_cases g2 : s2 ≤ 2
      case neg =>
        have g2' : (2 : Int) < (s2 : Int) := by omega
        have HF : Hid (fitsB n ms ps = false) := by show _ = _; rw [HV.out, FitR.no EX.out (by rw [HUM.out]; simp [g2])]; rfl
        go_wp2
        go_ret
        exact ⟨by rw [HF.out]; rfl, HB.out.trans (HB3.out.mono HB.out.size)⟩
      have g2' : ¬ (2 : Int) < (s2 : Int) := by omega
      by_cases g3 : 1 ≤ s3
      case neg =>
        have g3' : (s3 : Int) < 1 := by omega
        have HF : Hid (fitsB n ms ps = false) := by show _ = _; rw [HV.out, FitR.no EX.out (by rw [HUM.out]; simp [g3])]; rfl
        go_wp2
        go_ret
        exact ⟨by rw [HF.out]; rfl, HB.out.trans (HB3.out.mono HB.out.size)⟩
      have g3' : ¬ (s3 : Int) < 1 := by omega
      by_cases g4 : s3 ≤ 3
      case neg =>
        have g4' : (3 : Int) < (s3 : Int) := by omega
        have HF : Hid (fitsB n ms ps = false) := by show _ = _; rw [HV.out, FitR.no EX.out (by rw [HUM.out]; simp [g4])]; rfl
        go_wp2
        go_ret
        exact ⟨by rw [HF.out]; rfl, HB.out.trans (HB3.out.mono HB.out.size)⟩
      have g4' : ¬ (3 : Int) < (s3 : Int) := by omega
      have HT : Hid (fitM x = true) := by show _ = _; rw [HUM.out]; simp [g1, g2, g3, g4]
      go_wp2
      go_roundw
      case rel => exact ⟨i + 1, by rw [EM.out]; omega, by go_num, HB3.out, fun j y hj hy => by
        rcases Nat.lt_succ_iff_lt_or_eq.1 hj with h | h
        · exact HA.out j y h hy
        · subst h; rw [EX.out] at hy; cases hy; exact HT.out⟩
      case measure => simp [intOf]; omega
    · have hlt' : ¬ (i : Int) < (m : Int) := by omega
      have HV2 : Hid (fitsB n ms ps = ps.all fitP) := by show _ = _; rw [HV.out, FitR.all HA.out (by rw [EM.out]; omega)]; rfl
      go_wp2
      go_loopw [60] (FitR W1 ps fitP) (fun iv _ => q - (intOf iv).toNat)
      case atStart => exact ⟨0, by omega, rfl, HB2.out, fun j x hj => absurd hj (Nat.not_lt_zero j)⟩
      case round =>
        clear c0 c1 c2
        obtain ⟨k, hk, rfl, HB4, HA4⟩ := hrel
        rw [EQ.out] at hk
        by_cases hltk : k < q
        · have hltk' : (k : Int) < (q : Int) := by omega
          have hk0 : (0 : Int) ≤ (k : Int) := by omega
          have hkx : k < ps.length := by rw [EQ.out]; exact hltk
          have EX : Hid (ps[k]? = some ps[k]) := List.getElem?_eq_getElem hkx
          obtain ⟨po', cc, e5, hc⟩ := HP.out.stays HB4.out
          injection e5 with e6 e7 e8
          subst e6
          obtain ⟨a, uv, vv, rfl, hab, hcell⟩ := hc k hkx
          obtain ⟨p, hpa⟩ : ∃ p, a.add (k * 4) = p := ⟨_, rfl⟩
          rw [hpa] at hcell
          obtain ⟨x, ex⟩ : ∃ x, ps[k] = x := ⟨_, rfl⟩
          rw [ex] at hcell EX
          obtain ⟨d0, d1, d2, d3, hv1, hv2⟩ := hcell
          obtain ⟨uo, uc, rfl, _⟩ := hv1
          obtain ⟨vo, vc, rfl, _⟩ := hv2
          clear ex hc e7 e8
          have HUM : Hid (fitP x = (decide (x.uses.length ≤ 3) && decide (x.vars.length ≤ 3))) := rfl
          obtain ⟨s1, es1⟩ : ∃ s1, x.uses.length = s1 := ⟨_, rfl⟩
          obtain ⟨s2, es2⟩ : ∃ s2, x.vars.length = s2 := ⟨_, rfl⟩
          rw [es1] at d1 HUM
          rw [es2] at d2 HUM
          have HB3 : Hid (Below W1.heap.size W1 (wr.alloc (.cells #[.string x.name, .slice uo s1 uc, .slice vo s2 vc, .int .i64 x.body] 79))) := HB4.out.alloc HB4.out.size _
          clear es1 es2
          by_cases g1 : s1 ≤ 3
          case neg =>
            have g1' : (3 : Int) < (s1 : Int) := by omega
            have HF : Hid (fitsB n ms ps = false) := by show _ = _; rw [HV2.out, FitR.no EX.out (by rw [HUM.out]; simp [g1])]
            go_wp2
            go_ret
            exact ⟨by rw [HF.out]; rfl, HB.out.trans (HB3.out.mono HB.out.size)⟩
          have g1' : ¬ (3 : Int) < (s1 : Int) := by omega
          by_cases g2 : s2 ≤ 3
          case neg =>
            have g2' : (3 : Int) < (s2 : Int) := by omega
            have HF : Hid (fitsB n ms ps = false) := by show _ = _; rw [HV2.out, FitR.no EX.out (by rw [HUM.out]; simp [g2])]
            go_wp2
            go_ret
            exact ⟨by rw [HF.out]; rfl, HB.out.trans (HB3.out.mono HB.out.size)⟩
          have g2' : ¬ (3 : Int) < (s2 : Int) := by omega
          have HT : Hid (fitP x = true) := by show _ = _; rw [HUM.out]; simp [g1, g2]
          go_wp2
          go_roundw
          case rel => exact ⟨k + 1, by rw [EQ.out]; omega, by go_num, HB3.out, fun j y hj hy => by
            rcases Nat.lt_succ_iff_lt_or_eq.1 hj with h | h
            · exact HA4.out j y h hy
            · subst h; rw [EX.out] at hy; cases hy; exact HT.out⟩
          case measure => simp [intOf]; omega
        · have hltk' : ¬ (k : Int) < (q : Int) := by omega
          have HF : Hid (fitsB n ms ps = true) := by show _ = _; rw [HV2.out, FitR.all HA4.out (by rw [EQ.out]; omega)]
          go_wp2
          go_ret
          exact ⟨by rw [HF.out]; rfl, HB.out.trans (HB4.out.mono HB.out.size)⟩
end Go.Proofs.Ythlbboppdmdceaa
