/-
  Walks: whether an Env is right, by the specification.
-/
import Derived.Test.YtmckcbgdkjbpfaaCopE
import Derived.Test.YtmckcbgdkjbpfaaScoI
import Derived.Test.YtmckcbgdkjbpfaaCloW
namespace Go.Proofs.Ytmckcbgdkjbpfaa
open Go.RowKit

theorem StrsAt.take {w : World} {ao : Option Addr} {c : Nat} {xs : List ByteArray} (h : StrsAt w (.slice ao xs.length c) xs) {i : Nat} (hi : i ≤ xs.length) : StrsAt w (.slice ao i c) (xs.take i) := by
  obtain ⟨ao', c', e, hc⟩ := h
  injection e with e1 _ e3
  subst e1 e3
  refine ⟨ao, c, by rw [List.length_take, Nat.min_eq_left hi], fun j hj => ?_⟩
  rw [List.length_take] at hj
  rw [List.getElem_take]
  exact hc j (by omega)
/-- What holds of the first so many. -/
def okAt (x : Ev) (i : Nat) : Bool := nameB (x.names.getD i default) && vok (x.vals.getD i 0) && !memB (x.names.take i) (x.names.getD i default)
structure EkZ (w : World) (v0 v1 : Value) (z : World) : Prop where
  bx : Box z w.heap.size #[v0, v1] 27
  bel : Below w.heap.size w z
theorem EkZ.stays {w : World} {v0 v1 : Value} {z z' : World} (h : EkZ w v0 v1 z) (hb : Below z.heap.size z z') : EkZ w v0 v1 z' := ⟨h.bx.stays hb, h.bel.trans (hb.mono h.bel.size)⟩
def EkR (w : World) (v0 v1 : Value) (x : Ev) (iv : Value) (wr : World) : Prop := ∃ i : Nat, i ≤ x.names.length ∧ iv = .int .i64 i ∧ Hid (EkZ w v0 v1 wr) ∧ Hid (∀ j < i, okAt x j = true)

set_option maxRecDepth 100000 in
set_option maxHeartbeats 8000000 in
theorem specEnvOk_any (v0 v1 : Value) (x : Ev) (b : Nat) (w : World) (h : EvC b w [v0, v1] x) (hl : EvLen x) (hs : ∀ y ∈ x.names, y.size ≤ 1048576) :
    Calls Try.prog 23 #[.agg #[v0, v1]] w fun e w' => e = .returned (.bool (envOkB x)) ∧ Below w.heap.size w w' := by
  have HAW := hide h.at
  have L0 := hl.l0
  have L1 := hl.l1
  have HS := hide hs
  have Z0 : Hid (EkZ w v0 v1 (w.alloc (.cells #[v0, v1] 27))) := ⟨Box.made _ _ _, (Below.refl _ _).alloc (Nat.le_refl _) _⟩
  have hroom : Room v0 := by
    obtain ⟨u0, u1, e, k0, _⟩ := h
    injection e with e1 _
    subst e1
    exact k0.room
  obtain ⟨o0, c0, rfl, _⟩ := h.at.a0
  obtain ⟨o1, c1, rfl, _⟩ := h.at.a1
  have hrm : x.names.length ≤ c0 := hroom
  clear h hl hs hroom
  obtain ⟨R, eR⟩ : ∃ R, envOkB x = R := ⟨_, rfl⟩
  have ER := hide eR
  rw [eR]
  clear eR
  obtain ⟨n, en⟩ : ∃ n, x.names.length = n := ⟨_, rfl⟩
  obtain ⟨m, em⟩ : ∃ m, x.vals.length = m := ⟨_, rfl⟩
  have EN := hide en
  have EM := hide em
  rw [en] at L0 HAW Z0 hrm ⊢
  rw [em] at L1 HAW Z0 ⊢
  clear en em
  obtain ⟨W, hW⟩ : ∃ W, w.alloc (.cells #[.slice o0 n c0, .slice o1 m c1] 27) = W := ⟨_, rfl⟩
  have HW := hide hW
  rw [hW] at Z0
  clear hW
  have q0 := Lib.cell_of_heap Z0.out.bx 0
  have q1 := Lib.cell_of_heap Z0.out.bx 1
  simp at q0 q1
  rw [← HW.out] at q0 q1
  by_cases hnm : n = m
  case neg =>
    have eR2 : R = false := by rw [← ER.out, envOkB, EN.out, EM.out, decide_eq_false hnm]; rfl
    subst eR2
    have hq : ((n : Int) == (m : Int)) = false := by simp; omega
    go_enter Try.func23, Try.ntmps23
    go_wp2
    go_ret
    exact ⟨rfl, by rw [HW.out]; exact Z0.out.bel⟩
  subst hnm
  by_cases hn8 : n ≤ 8
  case neg =>
    have eR2 : R = false := by rw [← ER.out, envOkB, EN.out, decide_eq_false hn8, Bool.and_false]; rfl
    subst eR2
    have hq : (8 : Int) < (n : Int) := by omega
    go_enter Try.func23, Try.ntmps23
    go_wp2
    go_ret
    exact ⟨rfl, by rw [HW.out]; exact Z0.out.bel⟩
  have hq8 : ¬ (8 : Int) < (n : Int) := by omega
  have HR : Hid (R = (List.range n).all (okAt x)) := by
    show _ = _
    rw [← ER.out, envOkB, EN.out, EM.out, decide_eq_true rfl, decide_eq_true hn8, Bool.true_and, Bool.true_and]
    rfl
  go_enter Try.func23, Try.ntmps23
  go_wp2
  rw [HW.out]
  clear q0 q1
  go_loopw [3] (fun iv wr => EkR w (.slice o0 n c0) (.slice o1 n c1) x iv wr) (fun iv _ => n - (intOf iv).toNat)
  case atStart => exact ⟨0, by omega, rfl, Z0.out, fun j hj => absurd hj (Nat.not_lt_zero _)⟩
  case round =>
    clear Z0
    obtain ⟨i, hi, rfl, Z, HK⟩ := hrel
    rw [EN.out] at hi
    have t0 := Lib.cell_of_heap Z.out.bx 0
    have t1 := Lib.cell_of_heap Z.out.bx 1
    simp at t0 t1
    by_cases hlt : i < n
    · have hlt' : (i : Int) < (n : Int) := by omega
      have hi0 : (0 : Int) ≤ (i : Int) := by omega
      have hrm' : (i : Int) ≤ (c0 : Int) := by omega
      have hin : i < x.names.length := by rw [EN.out]; exact hlt
      have him : i < x.vals.length := by rw [EM.out]; exact hlt
      have HA := hide (HAW.out.stays Z.out.bel)
      obtain ⟨ao', c', e1, hc1⟩ := HA.out.a0
      injection e1 with e2 e3 e4
      subst e2
      obtain ⟨a, rfl, hab, hx⟩ := hc1 i hin
      obtain ⟨bo', d', e1, hc2⟩ := HA.out.a1
      injection e1 with e2 e5 e6
      subst e2
      obtain ⟨b, rfl, hbb, hy⟩ := hc2 i him
      have hsy := HS.out _ (List.getElem_mem hin)
      have HOK : Hid (okAt x i = (nameB x.names[i] && vok x.vals[i] && !memB (x.names.take i) x.names[i])) := by
        show _ = _
        rw [okAt, List.getD_eq_getElem?_getD, List.getElem?_eq_getElem hin, List.getD_eq_getElem?_getD, List.getElem?_eq_getElem him]
        rfl
      have CL := fun z (hz : EkZ w (.slice (some a) n c0) (.slice (some b) n c1) z) s => hide (l08In_any (.slice (some a) i c0) (x.names.take i) s z (by
        have h9 := (HAW.out.stays hz.bel).a0
        rw [← EN.out] at h9
        exact h9.take (by omega)) (by rw [List.length_take]; omega))
      obtain ⟨y, ey⟩ : ∃ y, x.names[i] = y := ⟨_, rfl⟩
      obtain ⟨u, eu⟩ : ∃ u, x.vals[i] = u := ⟨_, rfl⟩
      rw [ey] at hx hsy HOK
      rw [eu] at hy HOK
      obtain ⟨pa, epa⟩ : ∃ p, a.add i = p := ⟨_, rfl⟩
      obtain ⟨pb, epb⟩ : ∃ p, b.add i = p := ⟨_, rfl⟩
      rw [← block_add a i, epa] at hab
      rw [← block_add b i, epb] at hbb
      rw [epa] at hx
      rw [epb] at hy
      have HX := hide hx
      have HY := hide hy
      have HAB := hide hab
      have HBB := hide hbb
      have CN := fun z => hide (specNameOk_any y z hsy)
      have CV := fun z => hide (specValOk u z)
      have CM := fun z hz => CL z hz y
      clear CL hc1 hc2 e3 e4 e5 e6 ey eu hab hbb
      obtain ⟨k1, ek1⟩ : ∃ k, nameB y = k := ⟨_, rfl⟩
      obtain ⟨k2, ek2⟩ : ∃ k, vok u = k := ⟨_, rfl⟩
      obtain ⟨k3, ek3⟩ : ∃ k, memB (x.names.take i) y = k := ⟨_, rfl⟩
      rw [ek1] at CN HOK
      rw [ek2] at CV HOK
      rw [ek3] at HOK
      have CM2 := fun z hz => CM z hz
      simp only [ek3] at CM2
      clear CM ek1 ek2 ek3
      have HBAD : Hid (okAt x i = false → R = false) := fun hq => by
        rw [HR.out, Bool.eq_false_iff]
        intro hall
        rw [List.all_eq_true.1 hall i (List.mem_range.2 hlt)] at hq
        cases hq
      obtain ⟨Sc, eSc⟩ : ∃ Sc : World → Prop, ∀ z, Sc z ↔ (Below wr.heap.size wr z ∧ EkZ w (.slice (some a) n c0) (.slice (some b) n c1) z) := ⟨_, fun _ => Iff.rfl⟩
      have HSC := hide eSc
      have KP : Hid (∀ z z', Sc z → Below z.heap.size z z' → Sc z') := fun z z' hz hb => (HSC.out z').2 ⟨((HSC.out z).1 hz).1.trans (hb.mono ((HSC.out z).1 hz).1.size), ((HSC.out z).1 hz).2.stays hb⟩
      have K0 : Hid (Sc wr.drew) := (HSC.out _).2 ⟨(Below.refl _ _).drew, Z.out.stays (Below.refl _ _).drew⟩
      have hne : Nonempty (InC Sc) := ⟨⟨_, K0.out⟩⟩
      have x0 : ∀ s : InC Sc, s.z.cell? ⟨w.heap.size, 0, none⟩ = some (.slice (some a) n c0) := fun s => Lib.cell_of_heap ((HSC.out _).1 s.h).2.bx 0
      have x1 : ∀ s : InC Sc, s.z.cell? ⟨w.heap.size, 1, none⟩ = some (.slice (some b) n c1) := fun s => Lib.cell_of_heap ((HSC.out _).1 s.h).2.bx 1
      have x2 : ∀ s : InC Sc, s.z.cell? pa = some (.string y) := fun s => (((HSC.out _).1 s.h).1.cell HAB.out).trans HX.out
      have x3 : ∀ s : InC Sc, s.z.cell? pb = some (.int .i64 u) := fun s => (((HSC.out _).1 s.h).1.cell HBB.out).trans HY.out
      have CN1 := fun s : InC Sc => hide (calls_class s (fun w' hb => KP.out _ _ s.h hb) (unhide (CN s.z)))
      have CV1 := fun s : InC Sc => hide (calls_class_same s ((unhide (CV s.z)).mono fun _ _ h => ⟨h.1, h.2.symm⟩))
      have CM1 := fun s : InC Sc => hide (calls_class_same s (unhide (CM2 s.z ((HSC.out _).1 s.h).2)))
      clear eSc hx hy CN CV CM2
      cases k1 with
      | false =>
        have eR2 : R = false := HBAD.out HOK.out
        subst eR2
        go_wp2_with fail
        refine wp_region_class Sc (by kernel_rfl) (by kernel_rfl) K0.out ?_
        repeat (go_big_quiet_step ((first
          | (go_at_call 55; with_reducible exact unhide (CN1 _))
          | (go_at_call 27; with_reducible exact unhide (CV1 _))
          | (go_at_call 54; with_reducible exact unhide (CM1 _)))))
        refine wpQuiet_nil ?_
        intro s
        have D := hide ((HSC.out _).1 s.h).2
        obtain ⟨z, hz⟩ := s
        dsimp only at D ⊢
        clear x0 x1 x2 x3
        go_wp2
        go_ret
        exact ⟨rfl, D.out.bel⟩
      | true =>
        cases k2 with
        | false =>
          have eR2 : R = false := HBAD.out HOK.out
          subst eR2
          go_wp2_with fail
          refine wp_region_class Sc (by kernel_rfl) (by kernel_rfl) K0.out ?_
          repeat (go_big_quiet_step ((first
            | (go_at_call 55; with_reducible exact unhide (CN1 _))
            | (go_at_call 27; with_reducible exact unhide (CV1 _))
            | (go_at_call 54; with_reducible exact unhide (CM1 _)))))
          refine wpQuiet_nil ?_
          intro s
          have D := hide ((HSC.out _).1 s.h).2
          obtain ⟨z, hz⟩ := s
          dsimp only at D ⊢
          clear x0 x1 x2 x3
          go_wp2
          go_ret
          exact ⟨rfl, D.out.bel⟩
        | true =>
          cases k3 with
          | true =>
            have eR2 : R = false := HBAD.out HOK.out
            subst eR2
            go_wp2_with fail
            refine wp_region_class Sc (by kernel_rfl) (by kernel_rfl) K0.out ?_
            repeat (go_big_quiet_step ((first
              | (go_at_call 55; with_reducible exact unhide (CN1 _))
              | (go_at_call 27; with_reducible exact unhide (CV1 _))
              | (go_at_call 54; with_reducible exact unhide (CM1 _)))))
            refine wpQuiet_nil ?_
            intro s
            have D := hide ((HSC.out _).1 s.h).2
            obtain ⟨z, hz⟩ := s
            dsimp only at D ⊢
            clear x0 x1 x2 x3
            go_wp2
            go_ret
            exact ⟨rfl, D.out.bel⟩
          | false =>
            go_wp2_with fail
            refine wp_region_class Sc (by kernel_rfl) (by kernel_rfl) K0.out ?_
            repeat (go_big_quiet_step ((first
              | (go_at_call 55; with_reducible exact unhide (CN1 _))
              | (go_at_call 27; with_reducible exact unhide (CV1 _))
              | (go_at_call 54; with_reducible exact unhide (CM1 _)))))
            refine wpQuiet_nil ?_
            intro s
            have D := hide ((HSC.out _).1 s.h).2
            obtain ⟨z, hz⟩ := s
            dsimp only at D ⊢
            clear x0 x1 x2 x3
            go_wp2
            go_roundw
            case rel => exact ⟨i + 1, by rw [EN.out]; omega, by go_num, D.out, fun j hj => by
              by_cases e : j = i
              · subst e; exact HOK.out
              · exact HK.out j (by omega)⟩
            case measure => simp [intOf]; omega
    · have hlt' : ¬ (i : Int) < (n : Int) := by omega
      have eR2 : R = true := by
        rw [HR.out]
        exact List.all_eq_true.2 fun j hj => HK.out j (by have := List.mem_range.1 hj; omega)
      subst eR2
      go_wp2
      go_ret
      exact ⟨rfl, Z.out.bel⟩
end Go.Proofs.Ytmckcbgdkjbpfaa
