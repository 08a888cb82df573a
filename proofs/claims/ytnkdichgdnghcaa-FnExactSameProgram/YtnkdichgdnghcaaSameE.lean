/-
  Programs held against each other, by the specification.
-/
import Derived.Test.YtnkdichgdnghcaaSameD
namespace Go.Proofs.Ytnkdichgdnghcaa
open Go.RowKit

/-- How far two rows are held against each other, while more holds. -/
def AlkS {α : Type} (f : α → α → Bool) (S : World → Prop) (xs ys : List α) (n : Nat) (iv : Value) (wr : World) : Prop :=
  ∃ i : Nat, i ≤ n ∧ iv = .int .i64 i ∧ Hid (S wr) ∧ Hid (∀ (j : Nat) (h1 : j < xs.length) (h2 : j < ys.length), j < i → f xs[j] ys[j] = true)

set_option maxRecDepth 100000 in
set_option maxHeartbeats 8000000 in
theorem specSame_any (x y : Pg) (p0 q0 p1 q1 p2 q2 : Value) (w : World) (h0 : NdsAt w p0 x.nodes) (k0 : NdsAt w q0 y.nodes) (h1 : MosAt w p1 x.mons) (k1 : MosAt w q1 y.mons) (h2 : PrsAt w p2 x.pros) (k2 : PrsAt w q2 y.pros) (lx : PgLen x) (ly : PgLen y) :
    Calls Try.prog 5 #[.agg #[p0, p1, p2], .agg #[q0, q1, q2]] w fun e w' => e = .returned (.bool (pgB x y)) ∧ Below w.heap.size w w' := by
  have T := hide (TwoB.start w #[p0, p1, p2] #[q0, q1, q2] 33)
  have LX := hide lx
  have LY := hide ly
  have H0 := hide h0
  have K0 := hide k0
  obtain ⟨ao0, ac0, rfl, _⟩ := h0
  obtain ⟨bo0, bc0, rfl, _⟩ := k0
  have H1 := hide h1
  have K1 := hide k1
  obtain ⟨ao1, ac1, rfl, _⟩ := h1
  obtain ⟨bo1, bc1, rfl, _⟩ := k1
  have H2 := hide h2
  have K2 := hide k2
  obtain ⟨ao2, ac2, rfl, _⟩ := h2
  obtain ⟨bo2, bc2, rfl, _⟩ := k2
  obtain ⟨s, es⟩ : ∃ s, pgB x y = s := ⟨_, rfl⟩
  have ES := hide es
  rw [es]
  clear es lx ly
  obtain ⟨a0, a1, a2⟩ := x
  obtain ⟨b0, b1, b2⟩ := y
  dsimp only at *
  obtain ⟨n0, en0⟩ : ∃ n, a0.length = n := ⟨_, rfl⟩
  obtain ⟨m0, em0⟩ : ∃ n, b0.length = n := ⟨_, rfl⟩
  have EN0 := hide en0
  have EM0 := hide em0
  rw [en0] at T H0 ⊢
  rw [em0] at T K0 ⊢
  clear en0 em0
  obtain ⟨n1, en1⟩ : ∃ n, a1.length = n := ⟨_, rfl⟩
  obtain ⟨m1, em1⟩ : ∃ n, b1.length = n := ⟨_, rfl⟩
  have EN1 := hide en1
  have EM1 := hide em1
  rw [en1] at T H1 ⊢
  rw [em1] at T K1 ⊢
  clear en1 em1
  obtain ⟨n2, en2⟩ : ∃ n, a2.length = n := ⟨_, rfl⟩
  obtain ⟨m2, em2⟩ : ∃ n, b2.length = n := ⟨_, rfl⟩
  have EN2 := hide en2
  have EM2 := hide em2
  rw [en2] at T H2 ⊢
  rw [em2] at T K2 ⊢
  clear en2 em2
  by_cases hn0 : (n0 : Int) = (m0 : Int)
  rotate_left
  · have HF : Hid (s = false) := by
      rw [← ES.out]; show _ = _; unfold pgB; rw [alike_len ndB a0 b0 (fun h => hn0 (by rw [← EN0.out, ← EM0.out]; exact congrArg Int.ofNat h))]; simp
    go_enter Try.func5, Try.ntmps5
    go_wp2
    go_ret
    exact ⟨by rw [HF.out]; rfl, T.out.bel⟩
  obtain rfl : n0 = m0 := by omega
  clear hn0
  by_cases hn1 : (n1 : Int) = (m1 : Int)
  rotate_left
  · have HF : Hid (s = false) := by
      rw [← ES.out]; show _ = _; unfold pgB; rw [alike_len moB a1 b1 (fun h => hn1 (by rw [← EN1.out, ← EM1.out]; exact congrArg Int.ofNat h))]; simp
    go_enter Try.func5, Try.ntmps5
    go_wp2
    go_ret
    exact ⟨by rw [HF.out]; rfl, T.out.bel⟩
  obtain rfl : n1 = m1 := by omega
  clear hn1
  by_cases hn2 : (n2 : Int) = (m2 : Int)
  rotate_left
  · have HF : Hid (s = false) := by
      rw [← ES.out]; show _ = _; unfold pgB; rw [alike_len prB a2 b2 (fun h => hn2 (by rw [← EN2.out, ← EM2.out]; exact congrArg Int.ofNat h))]; simp
    go_enter Try.func5, Try.ntmps5
    go_wp2
    go_ret
    exact ⟨by rw [HF.out]; rfl, T.out.bel⟩
  obtain rfl : n2 = m2 := by omega
  clear hn2
  have hbd0 : n0 ≤ 1048576 := by have := LX.out.nl; rw [← EN0.out]; exact this
  have hbd1 : n1 ≤ 1048576 := by have := LX.out.ml; rw [← EN1.out]; exact this
  have hbd2 : n2 ≤ 1048576 := by have := LX.out.pl; rw [← EN2.out]; exact this
  go_enter Try.func5, Try.ntmps5
  go_wp2
  go_loopw [5] (AlkS ndB (TwoB w #[.slice ao0 n0 ac0, .slice ao1 n1 ac1, .slice ao2 n2 ac2] #[.slice bo0 n0 bc0, .slice bo1 n1 bc1, .slice bo2 n2 bc2] 33) a0 b0 n0) (fun iv _ => n0 - (intOf iv).toNat)
  case atStart => exact ⟨0, by omega, rfl, T.out, fun j _ _ hj => absurd hj (Nat.not_lt_zero j)⟩
  case round =>
    obtain ⟨i, hi, rfl, T0, HA⟩ := hrel
    have r0 := Lib.cell_of_heap T0.out.bA 0
    have s0 := Lib.cell_of_heap T0.out.bB 0
    have r1 := Lib.cell_of_heap T0.out.bA 1
    have s1 := Lib.cell_of_heap T0.out.bB 1
    have r2 := Lib.cell_of_heap T0.out.bA 2
    have s2 := Lib.cell_of_heap T0.out.bB 2
    simp at r0 s0 r1 s1 r2 s2
    have hw0 := T0.out.bA.lt
    have hw1 := T0.out.bB.lt
    by_cases hlt : i < n0
    · have hlt' : (i : Int) < (n0 : Int) := by omega
      have hi0 : (0 : Int) ≤ (i : Int) := by omega
      have hix : i < a0.length := by rw [EN0.out]; exact hlt
      have hiy : i < b0.length := by rw [EM0.out]; exact hlt
      obtain ⟨ao', c', e1, hc1⟩ := H0.out.stays T0.out.bel
      injection e1 with e2 e3 e4
      subst e2
      obtain ⟨bo', d', e1, hc2⟩ := K0.out.stays T0.out.bel
      injection e1 with e2 e5 e6
      subst e2
      obtain ⟨a, p5, rfl, hpb, hx⟩ := hc1 i hix
      obtain ⟨b, q5, rfl, hqb, hy⟩ := hc2 i hiy
      obtain ⟨p, hpa⟩ : ∃ p, a.add (i * 6) = p := ⟨_, rfl⟩
      obtain ⟨q', hqa⟩ : ∃ q', b.add (i * 6) = q' := ⟨_, rfl⟩
      rw [← block_add a (i * 6), hpa] at hpb
      rw [← block_add b (i * 6), hqa] at hqb
      rw [hpa] at hx
      rw [hqa] at hy
      obtain ⟨c0, c1, c2, c3, c4, c5, g5⟩ := hx
      obtain ⟨d0, d1, d2, d3, d4, d5, k5⟩ := hy
      have NO : Hid (ndB a0[i] b0[i] = false → s = false) := fun h => ES.out.symm.trans (by unfold pgB; rw [alike_no _ _ _ _ hix hiy h]; simp)
      have YES0 : Hid (ndB a0[i] b0[i] = true → ∀ (h1 : i < a0.length) (h2 : i < b0.length), ndB a0[i] b0[i] = true) := fun h _ _ => h
      have li := LX.out.kids _ (List.getElem_mem hix)
      have mi := LY.out.kids _ (List.getElem_mem hiy)
      obtain ⟨x, ex⟩ : ∃ x, a0[i] = x := ⟨_, rfl⟩
      obtain ⟨y, ey⟩ : ∃ y, b0[i] = y := ⟨_, rfl⟩
      have YES : Hid (ndB x y = true → ∀ (h1 : i < a0.length) (h2 : i < b0.length), ndB a0[i] b0[i] = true) := fun h => YES0.out (by rw [ex, ey]; exact h)
      rw [ex] at NO li c0 c1 c2 c3 c4 g5
      rw [ey] at NO mi d0 d1 d2 d3 d4 k5
      clear YES0 ex ey hc1 hc2 e3 e4 e5 e6 hix hiy
      have C5 : ∀ X Y t z, TwoB wr X Y t z → Hid (Calls Try.prog 12 #[p5, q5] z fun e w' => e = .returned (.bool (alike intB x.kids y.kids)) ∧ TwoB wr X Y t w') := fun X Y t z hu =>
        (intsI_any p5 q5 x.kids y.kids z (g5.stays hu.bel) (k5.stays hu.bel) li mi).mono fun e w1 ⟨h1, h2⟩ => ⟨h1, hu.stays h2⟩
      obtain ⟨ro5, rc5, rfl, _⟩ := g5
      obtain ⟨so5, sc5, rfl, _⟩ := k5
      obtain ⟨x0, x1, x2, x3, x4, x5⟩ := x
      obtain ⟨y0, y1, y2, y3, y4, y5⟩ := y
      dsimp only at *
      clear li mi
      cases f0 : intB x0 y0 with
      | false =>
        have HF : Hid (s = false) := NO.out (by unfold ndB; simp [f0])
        clear NO YES
        unfold intB at f0
        simp only [decide_eq_false_iff_not] at f0
        go_wp2
        go_ret
        exact ⟨by rw [HF.out]; rfl, T0.out.bel.trans ((TwoB.start wr _ _ _).bel.mono T0.out.bel.size)⟩
      | true =>
        cases f1 : intB x1 y1 with
        | false =>
          have HF : Hid (s = false) := NO.out (by unfold ndB; simp [f0, f1])
          clear NO YES
          unfold intB at f0
          simp only [decide_eq_true_eq] at f0
          subst f0
          unfold intB at f1
          simp only [decide_eq_false_iff_not] at f1
          go_wp2
          go_ret
          exact ⟨by rw [HF.out]; rfl, T0.out.bel.trans ((TwoB.start wr _ _ _).bel.mono T0.out.bel.size)⟩
        | true =>
          cases f2 : strB x2 y2 with
          | false =>
            have HF : Hid (s = false) := NO.out (by unfold ndB; simp [f0, f1, f2])
            clear NO YES
            unfold intB at f0
            simp only [decide_eq_true_eq] at f0
            subst f0
            unfold intB at f1
            simp only [decide_eq_true_eq] at f1
            subst f1
            unfold strB at f2
            go_wp2
            go_ret
            exact ⟨by rw [HF.out]; rfl, T0.out.bel.trans ((TwoB.start wr _ _ _).bel.mono T0.out.bel.size)⟩
          | true =>
            cases f3 : strB x3 y3 with
            | false =>
              have HF : Hid (s = false) := NO.out (by unfold ndB; simp [f0, f1, f2, f3])
              clear NO YES
              unfold intB at f0
              simp only [decide_eq_true_eq] at f0
              subst f0
              unfold intB at f1
              simp only [decide_eq_true_eq] at f1
              subst f1
              unfold strB at f2
              unfold strB at f3
              go_wp2
              go_ret
              exact ⟨by rw [HF.out]; rfl, T0.out.bel.trans ((TwoB.start wr _ _ _).bel.mono T0.out.bel.size)⟩
            | true =>
              cases f4 : strB x4 y4 with
              | false =>
                have HF : Hid (s = false) := NO.out (by unfold ndB; simp [f0, f1, f2, f3, f4])
                clear NO YES
                unfold intB at f0
                simp only [decide_eq_true_eq] at f0
                subst f0
                unfold intB at f1
                simp only [decide_eq_true_eq] at f1
                subst f1
                unfold strB at f2
                unfold strB at f3
                unfold strB at f4
                go_wp2
                go_ret
                exact ⟨by rw [HF.out]; rfl, T0.out.bel.trans ((TwoB.start wr _ _ _).bel.mono T0.out.bel.size)⟩
              | true =>
                cases f5 : alike intB x5 y5 with
                | false =>
                  have HF : Hid (s = false) := NO.out (by unfold ndB; simp [f0, f1, f2, f3, f4, f5])
                  clear NO YES
                  unfold intB at f0
                  simp only [decide_eq_true_eq] at f0
                  subst f0
                  unfold intB at f1
                  simp only [decide_eq_true_eq] at f1
                  subst f1
                  unfold strB at f2
                  unfold strB at f3
                  unfold strB at f4
                  rw [f5] at C5
                  clear f5
                  go_wp2_with fail
                  refine (unhide (C5 _ _ _ _ (TwoB.start wr _ _ _))).mono ?_
                  rintro e z5 ⟨rfl, hu5⟩
                  have U5 := hide hu5
                  clear hu5
                  have u0 := Lib.cell_of_heap U5.out.bA 0
                  have v0 := Lib.cell_of_heap U5.out.bB 0
                  have u1 := Lib.cell_of_heap U5.out.bA 1
                  have v1 := Lib.cell_of_heap U5.out.bB 1
                  have u2 := Lib.cell_of_heap U5.out.bA 2
                  have v2 := Lib.cell_of_heap U5.out.bB 2
                  have u3 := Lib.cell_of_heap U5.out.bA 3
                  have v3 := Lib.cell_of_heap U5.out.bB 3
                  have u4 := Lib.cell_of_heap U5.out.bA 4
                  have v4 := Lib.cell_of_heap U5.out.bB 4
                  have u5 := Lib.cell_of_heap U5.out.bA 5
                  have v5 := Lib.cell_of_heap U5.out.bB 5
                  simp at u0 v0 u1 v1 u2 v2 u3 v3 u4 v4 u5 v5
                  go_wp2
                  go_ret
                  exact ⟨by rw [HF.out]; rfl, T0.out.bel.trans (U5.out.bel.mono T0.out.bel.size)⟩
                | true =>
                  have YS := hide (YES.out (by unfold ndB; simp [f0, f1, f2, f3, f4, f5]))
                  clear NO YES
                  unfold intB at f0
                  simp only [decide_eq_true_eq] at f0
                  subst f0
                  unfold intB at f1
                  simp only [decide_eq_true_eq] at f1
                  subst f1
                  unfold strB at f2
                  unfold strB at f3
                  unfold strB at f4
                  rw [f5] at C5
                  clear f5
                  go_wp2_with fail
                  refine (unhide (C5 _ _ _ _ (TwoB.start wr _ _ _))).mono ?_
                  rintro e z5 ⟨rfl, hu5⟩
                  have U5 := hide hu5
                  clear hu5
                  have u0 := Lib.cell_of_heap U5.out.bA 0
                  have v0 := Lib.cell_of_heap U5.out.bB 0
                  have u1 := Lib.cell_of_heap U5.out.bA 1
                  have v1 := Lib.cell_of_heap U5.out.bB 1
                  have u2 := Lib.cell_of_heap U5.out.bA 2
                  have v2 := Lib.cell_of_heap U5.out.bB 2
                  have u3 := Lib.cell_of_heap U5.out.bA 3
                  have v3 := Lib.cell_of_heap U5.out.bB 3
                  have u4 := Lib.cell_of_heap U5.out.bA 4
                  have v4 := Lib.cell_of_heap U5.out.bB 4
                  have u5 := Lib.cell_of_heap U5.out.bA 5
                  have v5 := Lib.cell_of_heap U5.out.bB 5
                  simp at u0 v0 u1 v1 u2 v2 u3 v3 u4 v4 u5 v5
                  go_wp2
                  go_roundw
                  case rel => exact ⟨i + 1, by omega, by go_num, T0.out.stays U5.out.bel, step_all HA.out YS.out⟩
                  case measure => simp [intOf]; omega
    · have hlt' : ¬ (i : Int) < (n0 : Int) := by omega
      have AL0 : Hid (alike ndB a0 b0 = true) := alike_all _ _ _ (EN0.out.trans EM0.out.symm) fun j k1 k2 => HA.out j k1 k2 (by have := EN0.out; omega)
      clear HA hlt hi
      go_wp2
      go_loopw [8] (AlkS moB (TwoB w #[.slice ao0 n0 ac0, .slice ao1 n1 ac1, .slice ao2 n2 ac2] #[.slice bo0 n0 bc0, .slice bo1 n1 bc1, .slice bo2 n2 bc2] 33) a1 b1 n1) (fun iv _ => n1 - (intOf iv).toNat)
      case atStart => exact ⟨0, by omega, rfl, T0.out, fun j _ _ hj => absurd hj (Nat.not_lt_zero j)⟩
      case round =>
        obtain ⟨i, hi, rfl, T1, HA⟩ := hrel
        have r0 := Lib.cell_of_heap T1.out.bA 0
        have s0 := Lib.cell_of_heap T1.out.bB 0
        have r1 := Lib.cell_of_heap T1.out.bA 1
        have s1 := Lib.cell_of_heap T1.out.bB 1
        have r2 := Lib.cell_of_heap T1.out.bA 2
        have s2 := Lib.cell_of_heap T1.out.bB 2
        simp at r0 s0 r1 s1 r2 s2
        have hw0 := T1.out.bA.lt
        have hw1 := T1.out.bB.lt
        by_cases hlt : i < n1
        · have hlt' : (i : Int) < (n1 : Int) := by omega
          have hi0 : (0 : Int) ≤ (i : Int) := by omega
          have hix : i < a1.length := by rw [EN1.out]; exact hlt
          have hiy : i < b1.length := by rw [EM1.out]; exact hlt
          obtain ⟨ao', c', e1, hc1⟩ := H1.out.stays T1.out.bel
          injection e1 with e2 e3 e4
          subst e2
          obtain ⟨bo', d', e1, hc2⟩ := K1.out.stays T1.out.bel
          injection e1 with e2 e5 e6
          subst e2
          obtain ⟨a, p1, p2, p3, rfl, hpb, hx⟩ := hc1 i hix
          obtain ⟨b, q1, q2, q3, rfl, hqb, hy⟩ := hc2 i hiy
          obtain ⟨p, hpa⟩ : ∃ p, a.add (i * 4) = p := ⟨_, rfl⟩
          obtain ⟨q', hqa⟩ : ∃ q', b.add (i * 4) = q' := ⟨_, rfl⟩
          rw [← block_add a (i * 4), hpa] at hpb
          rw [← block_add b (i * 4), hqa] at hqb
          rw [hpa] at hx
          rw [hqa] at hy
          obtain ⟨c0, c1, c2, c3, g1, g2, g3⟩ := hx
          obtain ⟨d0, d1, d2, d3, k1, k2, k3⟩ := hy
          have NO : Hid (moB a1[i] b1[i] = false → s = false) := fun h => ES.out.symm.trans (by unfold pgB; rw [alike_no _ _ _ _ hix hiy h]; simp)
          have YES0 : Hid (moB a1[i] b1[i] = true → ∀ (h1 : i < a1.length) (h2 : i < b1.length), moB a1[i] b1[i] = true) := fun h _ _ => h
          have li := LX.out.mon _ (List.getElem_mem hix)
          have mi := LY.out.mon _ (List.getElem_mem hiy)
          obtain ⟨x, ex⟩ : ∃ x, a1[i] = x := ⟨_, rfl⟩
          obtain ⟨y, ey⟩ : ∃ y, b1[i] = y := ⟨_, rfl⟩
          have YES : Hid (moB x y = true → ∀ (h1 : i < a1.length) (h2 : i < b1.length), moB a1[i] b1[i] = true) := fun h => YES0.out (by rw [ex, ey]; exact h)
          rw [ex] at NO li c0 g1 g2 g3
          rw [ey] at NO mi d0 k1 k2 k3
          clear YES0 ex ey hc1 hc2 e3 e4 e5 e6 hix hiy
          have C1 : ∀ X Y t z, TwoB wr X Y t z → Hid (Calls Try.prog 13 #[p1, q1] z fun e w' => e = .returned (.bool (alike strB x.vars y.vars)) ∧ TwoB wr X Y t w') := fun X Y t z hu =>
            (textsS_any p1 q1 x.vars y.vars z (g1.stays hu.bel) (k1.stays hu.bel) li.1 mi.1).mono fun e w1 ⟨h1, h2⟩ => ⟨h1, hu.stays h2⟩
          have C2 : ∀ X Y t z, TwoB wr X Y t z → Hid (Calls Try.prog 13 #[p2, q2] z fun e w' => e = .returned (.bool (alike strB x.queues y.queues)) ∧ TwoB wr X Y t w') := fun X Y t z hu =>
            (textsS_any p2 q2 x.queues y.queues z (g2.stays hu.bel) (k2.stays hu.bel) li.2.1 mi.2.1).mono fun e w1 ⟨h1, h2⟩ => ⟨h1, hu.stays h2⟩
          have G3 := hide g3
          have J3 := hide k3
          obtain ⟨ro1, rc1, rfl, _⟩ := g1
          obtain ⟨so1, sc1, rfl, _⟩ := k1
          obtain ⟨ro2, rc2, rfl, _⟩ := g2
          obtain ⟨so2, sc2, rfl, _⟩ := k2
          obtain ⟨ro3, rc3, rfl, _⟩ := g3
          obtain ⟨so3, sc3, rfl, _⟩ := k3
          obtain ⟨x0, x1, x2, x3⟩ := x
          obtain ⟨y0, y1, y2, y3⟩ := y
          dsimp only at *
          have lne : x3.length ≤ 1048576 := li.2.2
          clear li mi
          cases f0 : strB x0 y0 with
          | false =>
            have HF : Hid (s = false) := NO.out (by unfold moB; simp [f0])
            clear NO YES
            unfold strB at f0
            go_wp2
            go_ret
            exact ⟨by rw [HF.out]; rfl, T1.out.bel.trans ((TwoB.start wr _ _ _).bel.mono T1.out.bel.size)⟩
          | true =>
            cases f1 : alike strB x1 y1 with
            | false =>
              have HF : Hid (s = false) := NO.out (by unfold moB; simp [f0, f1])
              clear NO YES
              unfold strB at f0
              rw [f1] at C1
              clear f1
              go_wp2_with fail
              refine (unhide (C1 _ _ _ _ (TwoB.start wr _ _ _))).mono ?_
              rintro e z1 ⟨rfl, hu1⟩
              have U1 := hide hu1
              clear hu1
              have u0 := Lib.cell_of_heap U1.out.bA 0
              have v0 := Lib.cell_of_heap U1.out.bB 0
              have u1 := Lib.cell_of_heap U1.out.bA 1
              have v1 := Lib.cell_of_heap U1.out.bB 1
              have u2 := Lib.cell_of_heap U1.out.bA 2
              have v2 := Lib.cell_of_heap U1.out.bB 2
              have u3 := Lib.cell_of_heap U1.out.bA 3
              have v3 := Lib.cell_of_heap U1.out.bB 3
              simp at u0 v0 u1 v1 u2 v2 u3 v3
              go_wp2
              go_ret
              exact ⟨by rw [HF.out]; rfl, T1.out.bel.trans (U1.out.bel.mono T1.out.bel.size)⟩
            | true =>
              cases f2 : alike strB x2 y2 with
              | false =>
                have HF : Hid (s = false) := NO.out (by unfold moB; simp [f0, f1, f2])
                clear NO YES
                unfold strB at f0
                rw [f1] at C1
                clear f1
                rw [f2] at C2
                clear f2
                go_wp2_with fail
                refine (unhide (C1 _ _ _ _ (TwoB.start wr _ _ _))).mono ?_
                rintro e z1 ⟨rfl, hu1⟩
                have U1 := hide hu1
                clear hu1
                have u0 := Lib.cell_of_heap U1.out.bA 0
                have v0 := Lib.cell_of_heap U1.out.bB 0
                have u1 := Lib.cell_of_heap U1.out.bA 1
                have v1 := Lib.cell_of_heap U1.out.bB 1
                have u2 := Lib.cell_of_heap U1.out.bA 2
                have v2 := Lib.cell_of_heap U1.out.bB 2
                have u3 := Lib.cell_of_heap U1.out.bA 3
                have v3 := Lib.cell_of_heap U1.out.bB 3
                simp at u0 v0 u1 v1 u2 v2 u3 v3
                go_wp2_with fail
                refine (unhide (C2 _ _ _ _ U1.out)).mono ?_
                rintro e z2 ⟨rfl, hu2⟩
                have U2 := hide hu2
                clear hu2
                clear u0 v0 u1 v1 u2 v2 u3 v3
                have u0 := Lib.cell_of_heap U2.out.bA 0
                have v0 := Lib.cell_of_heap U2.out.bB 0
                have u1 := Lib.cell_of_heap U2.out.bA 1
                have v1 := Lib.cell_of_heap U2.out.bB 1
                have u2 := Lib.cell_of_heap U2.out.bA 2
                have v2 := Lib.cell_of_heap U2.out.bB 2
                have u3 := Lib.cell_of_heap U2.out.bA 3
                have v3 := Lib.cell_of_heap U2.out.bB 3
                simp at u0 v0 u1 v1 u2 v2 u3 v3
                go_wp2
                go_ret
                exact ⟨by rw [HF.out]; rfl, T1.out.bel.trans (U2.out.bel.mono T1.out.bel.size)⟩
              | true =>
                by_cases f3 : x3.length = y3.length
                rotate_left
                · have g3 : alike enB x3 y3 = false := alike_len _ _ _ f3
                  have HF : Hid (s = false) := NO.out (by unfold moB; simp [f0, f1, f2, g3])
                  clear NO YES
                  have hq : ¬ (x3.length : Int) = (y3.length : Int) := by omega
                  clear g3
                  unfold strB at f0
                  rw [f1] at C1
                  clear f1
                  rw [f2] at C2
                  clear f2
                  go_wp2_with fail
                  refine (unhide (C1 _ _ _ _ (TwoB.start wr _ _ _))).mono ?_
                  rintro e z1 ⟨rfl, hu1⟩
                  have U1 := hide hu1
                  clear hu1
                  have u0 := Lib.cell_of_heap U1.out.bA 0
                  have v0 := Lib.cell_of_heap U1.out.bB 0
                  have u1 := Lib.cell_of_heap U1.out.bA 1
                  have v1 := Lib.cell_of_heap U1.out.bB 1
                  have u2 := Lib.cell_of_heap U1.out.bA 2
                  have v2 := Lib.cell_of_heap U1.out.bB 2
                  have u3 := Lib.cell_of_heap U1.out.bA 3
                  have v3 := Lib.cell_of_heap U1.out.bB 3
                  simp at u0 v0 u1 v1 u2 v2 u3 v3
                  go_wp2_with fail
                  refine (unhide (C2 _ _ _ _ U1.out)).mono ?_
                  rintro e z2 ⟨rfl, hu2⟩
                  have U2 := hide hu2
                  clear hu2
                  clear u0 v0 u1 v1 u2 v2 u3 v3
                  have u0 := Lib.cell_of_heap U2.out.bA 0
                  have v0 := Lib.cell_of_heap U2.out.bB 0
                  have u1 := Lib.cell_of_heap U2.out.bA 1
                  have v1 := Lib.cell_of_heap U2.out.bB 1
                  have u2 := Lib.cell_of_heap U2.out.bA 2
                  have v2 := Lib.cell_of_heap U2.out.bB 2
                  have u3 := Lib.cell_of_heap U2.out.bA 3
                  have v3 := Lib.cell_of_heap U2.out.bB 3
                  simp at u0 v0 u1 v1 u2 v2 u3 v3
                  go_wp2
                  go_ret
                  exact ⟨by rw [HF.out]; rfl, T1.out.bel.trans (U2.out.bel.mono T1.out.bel.size)⟩
                have NE : Hid (alike enB x3 y3 = false → s = false) := fun h => NO.out (by unfold moB; simp [f0, f1, f2, h])
                have YE : Hid (alike enB x3 y3 = true → ∀ (h1 : i < a1.length) (h2 : i < b1.length), moB a1[i] b1[i] = true) := fun h => YES.out (by unfold moB; simp [f0, f1, f2, h])
                clear NO YES
                obtain ⟨ne, ene⟩ : ∃ n, x3.length = n := ⟨_, rfl⟩
                have ENE := hide ene
                have EME := hide (f3.symm.trans ene)
                have hq := f3.symm.trans ene
                rw [ene] at lne G3 c3
                rw [hq] at J3 d3
                clear ene f3
                clear hq
                unfold strB at f0
                rw [f1] at C1
                clear f1
                rw [f2] at C2
                clear f2
                go_wp2_with fail
                refine (unhide (C1 _ _ _ _ (TwoB.start wr _ _ _))).mono ?_
                rintro e z1 ⟨rfl, hu1⟩
                have U1 := hide hu1
                clear hu1
                have u0 := Lib.cell_of_heap U1.out.bA 0
                have v0 := Lib.cell_of_heap U1.out.bB 0
                have u1 := Lib.cell_of_heap U1.out.bA 1
                have v1 := Lib.cell_of_heap U1.out.bB 1
                have u2 := Lib.cell_of_heap U1.out.bA 2
                have v2 := Lib.cell_of_heap U1.out.bB 2
                have u3 := Lib.cell_of_heap U1.out.bA 3
                have v3 := Lib.cell_of_heap U1.out.bB 3
                simp at u0 v0 u1 v1 u2 v2 u3 v3
                go_wp2_with fail
                refine (unhide (C2 _ _ _ _ U1.out)).mono ?_
                rintro e z2 ⟨rfl, hu2⟩
                have U2 := hide hu2
                clear hu2
                clear u0 v0 u1 v1 u2 v2 u3 v3
                have u0 := Lib.cell_of_heap U2.out.bA 0
                have v0 := Lib.cell_of_heap U2.out.bB 0
                have u1 := Lib.cell_of_heap U2.out.bA 1
                have v1 := Lib.cell_of_heap U2.out.bB 1
                have u2 := Lib.cell_of_heap U2.out.bA 2
                have v2 := Lib.cell_of_heap U2.out.bB 2
                have u3 := Lib.cell_of_heap U2.out.bA 3
                have v3 := Lib.cell_of_heap U2.out.bB 3
                simp at u0 v0 u1 v1 u2 v2 u3 v3
                clear u0 v0 u1 v1 u2 v2 u3 v3
                have Z0 : Hid (TwoB w #[.slice ao0 n0 ac0, .slice (some a) n1 ac1, .slice ao2 n2 ac2] #[.slice bo0 n0 bc0, .slice (some b) n1 bc1, .slice bo2 n2 bc2] 33 z2 ∧ TwoB wr #[.string x0, .slice ro1 x1.length rc1, .slice ro2 x2.length rc2, .slice ro3 ne rc3] #[.string y0, .slice so1 y1.length sc1, .slice so2 y2.length sc2, .slice so3 ne sc3] 46 z2) := ⟨T1.out.stays U2.out.bel, U2.out⟩
                have u0 := Lib.cell_of_heap U2.out.bA 0
                have v0 := Lib.cell_of_heap U2.out.bB 0
                have u1 := Lib.cell_of_heap U2.out.bA 1
                have v1 := Lib.cell_of_heap U2.out.bB 1
                have u2 := Lib.cell_of_heap U2.out.bA 2
                have v2 := Lib.cell_of_heap U2.out.bB 2
                have u3 := Lib.cell_of_heap U2.out.bA 3
                have v3 := Lib.cell_of_heap U2.out.bB 3
                simp at u0 v0 u1 v1 u2 v2 u3 v3
                go_wp2
                go_loopw [11] (AlkS enB (fun z => TwoB w #[.slice ao0 n0 ac0, .slice (some a) n1 ac1, .slice ao2 n2 ac2] #[.slice bo0 n0 bc0, .slice (some b) n1 bc1, .slice bo2 n2 bc2] 33 z ∧ TwoB wr #[.string x0, .slice ro1 x1.length rc1, .slice ro2 x2.length rc2, .slice ro3 ne rc3] #[.string y0, .slice so1 y1.length sc1, .slice so2 y2.length sc2, .slice so3 ne sc3] 46 z) x3 y3 ne) (fun iv _ => ne - (intOf iv).toNat)
                case atStart => exact ⟨0, by omega, rfl, Z0.out, fun j _ _ hj => absurd hj (Nat.not_lt_zero j)⟩
                case round =>
                  obtain ⟨l, hl, rfl, Z, HE⟩ := hrel
                  have V := hide Z.out.2
                  clear u0 v0 u1 v1 u2 v2 u3 v3
                  have u0 := Lib.cell_of_heap V.out.bA 0
                  have v0 := Lib.cell_of_heap V.out.bB 0
                  have u1 := Lib.cell_of_heap V.out.bA 1
                  have v1 := Lib.cell_of_heap V.out.bB 1
                  have u2 := Lib.cell_of_heap V.out.bA 2
                  have v2 := Lib.cell_of_heap V.out.bB 2
                  have u3 := Lib.cell_of_heap V.out.bA 3
                  have v3 := Lib.cell_of_heap V.out.bB 3
                  simp at u0 v0 u1 v1 u2 v2 u3 v3
                  by_cases hle : l < ne
                  · have hle' : (l : Int) < (ne : Int) := by omega
                    have hl0 : (0 : Int) ≤ (l : Int) := by omega
                    have hix : l < x3.length := by rw [ENE.out]; exact hle
                    have hiy : l < y3.length := by rw [EME.out]; exact hle
                    obtain ⟨ao', c', e1, hc1⟩ := G3.out.stays V.out.bel
                    injection e1 with e2 e3 e4
                    subst e2
                    obtain ⟨bo', d', e1, hc2⟩ := J3.out.stays V.out.bel
                    injection e1 with e2 e5 e6
                    subst e2
                    obtain ⟨ra, rfl, hra, hx⟩ := hc1 l hix
                    obtain ⟨sa, rfl, hsa, hy⟩ := hc2 l hiy
                    have NO : Hid (enB x3[l] y3[l] = false → s = false) := fun h => NE.out (alike_no _ _ _ _ hix hiy h)
                    have YES0 : Hid (enB x3[l] y3[l] = true → ∀ (h1 : l < x3.length) (h2 : l < y3.length), enB x3[l] y3[l] = true) := fun h _ _ => h
                    obtain ⟨x, ex⟩ : ∃ x, x3[l] = x := ⟨_, rfl⟩
                    obtain ⟨y, ey⟩ : ∃ y, y3[l] = y := ⟨_, rfl⟩
                    have YES : Hid (enB x y = true → ∀ (h1 : l < x3.length) (h2 : l < y3.length), enB x3[l] y3[l] = true) := fun h => YES0.out (by rw [ex, ey]; exact h)
                    rw [ex] at NO hx
                    rw [ey] at NO hy
                    clear YES0 ex ey hc1 hc2 e3 e4 e5 e6 hix hiy
                    obtain ⟨xe0, xe1, xe2⟩ := x
                    obtain ⟨ye0, ye1, ye2⟩ := y
                    obtain ⟨pe0, pe1, pe2⟩ := hx
                    obtain ⟨qe0, qe1, qe2⟩ := hy
                    dsimp only at pe0 pe1 pe2 qe0 qe1 qe2
                    cases hxy : enB ⟨xe0, xe1, xe2⟩ ⟨ye0, ye1, ye2⟩ with
                    | false =>
                      have HF : Hid (s = false) := NO.out hxy
                      clear NO YES
                      have RN := fun w => run_neq_entry w xe0 xe1 ye0 ye1 xe2 ye2
                      rw [hxy] at RN
                      go_wp2
                      go_region
                      all_goals go_wp2
                      all_goals go_ret
                      all_goals exact ⟨by rw [HF.out]; rfl, Z.out.1.bel.drew⟩
                    | true =>
                      have YS := hide (YES.out hxy)
                      clear NO YES
                      have RN := fun w => run_neq_entry w xe0 xe1 ye0 ye1 xe2 ye2
                      rw [hxy] at RN
                      go_wp2
                      go_region
                      all_goals go_wp2
                      go_roundw
                      case rel => exact ⟨l + 1, by omega, by go_num, ⟨Z.out.1.stays (Below.refl _ _).drew, Z.out.2.stays (Below.refl _ _).drew⟩, step_all HE.out YS.out⟩
                      case measure => simp [intOf]; omega
                  · have hle' : ¬ (l : Int) < (ne : Int) := by omega
                    have YS := hide (YE.out (alike_all _ _ _ (ENE.out.trans EME.out.symm) fun j k1 k2 => HE.out j k1 k2 (by have := ENE.out; omega)))
                    go_wp2
                    go_roundw
                    case rel => exact ⟨i + 1, by omega, by go_num, Z.out.1, step_all HA.out YS.out⟩
                    case measure => simp [intOf]; omega
        · have hlt' : ¬ (i : Int) < (n1 : Int) := by omega
          have AL1 : Hid (alike moB a1 b1 = true) := alike_all _ _ _ (EN1.out.trans EM1.out.symm) fun j k1 k2 => HA.out j k1 k2 (by have := EN1.out; omega)
          clear HA hlt hi
          go_wp2
          go_loopw [12] (AlkS prB (TwoB w #[.slice ao0 n0 ac0, .slice ao1 n1 ac1, .slice ao2 n2 ac2] #[.slice bo0 n0 bc0, .slice bo1 n1 bc1, .slice bo2 n2 bc2] 33) a2 b2 n2) (fun iv _ => n2 - (intOf iv).toNat)
          case atStart => exact ⟨0, by omega, rfl, T1.out, fun j _ _ hj => absurd hj (Nat.not_lt_zero j)⟩
          case round =>
            obtain ⟨i, hi, rfl, T2, HA⟩ := hrel
            have r0 := Lib.cell_of_heap T2.out.bA 0
            have s0 := Lib.cell_of_heap T2.out.bB 0
            have r1 := Lib.cell_of_heap T2.out.bA 1
            have s1 := Lib.cell_of_heap T2.out.bB 1
            have r2 := Lib.cell_of_heap T2.out.bA 2
            have s2 := Lib.cell_of_heap T2.out.bB 2
            simp at r0 s0 r1 s1 r2 s2
            have hw0 := T2.out.bA.lt
            have hw1 := T2.out.bB.lt
            by_cases hlt : i < n2
            · have hlt' : (i : Int) < (n2 : Int) := by omega
              have hi0 : (0 : Int) ≤ (i : Int) := by omega
              have hix : i < a2.length := by rw [EN2.out]; exact hlt
              have hiy : i < b2.length := by rw [EM2.out]; exact hlt
              obtain ⟨ao', c', e1, hc1⟩ := H2.out.stays T2.out.bel
              injection e1 with e2 e3 e4
              subst e2
              obtain ⟨bo', d', e1, hc2⟩ := K2.out.stays T2.out.bel
              injection e1 with e2 e5 e6
              subst e2
              obtain ⟨a, p1, p2, rfl, hpb, hx⟩ := hc1 i hix
              obtain ⟨b, q1, q2, rfl, hqb, hy⟩ := hc2 i hiy
              obtain ⟨p, hpa⟩ : ∃ p, a.add (i * 4) = p := ⟨_, rfl⟩
              obtain ⟨q', hqa⟩ : ∃ q', b.add (i * 4) = q' := ⟨_, rfl⟩
              rw [← block_add a (i * 4), hpa] at hpb
              rw [← block_add b (i * 4), hqa] at hqb
              rw [hpa] at hx
              rw [hqa] at hy
              obtain ⟨c0, c1, c2, c3, g1, g2⟩ := hx
              obtain ⟨d0, d1, d2, d3, k1, k2⟩ := hy
              have NO : Hid (prB a2[i] b2[i] = false → s = false) := fun h => ES.out.symm.trans (by unfold pgB; rw [alike_no _ _ _ _ hix hiy h]; simp)
              have YES0 : Hid (prB a2[i] b2[i] = true → ∀ (h1 : i < a2.length) (h2 : i < b2.length), prB a2[i] b2[i] = true) := fun h _ _ => h
              have li := LX.out.pro _ (List.getElem_mem hix)
              have mi := LY.out.pro _ (List.getElem_mem hiy)
              obtain ⟨x, ex⟩ : ∃ x, a2[i] = x := ⟨_, rfl⟩
              obtain ⟨y, ey⟩ : ∃ y, b2[i] = y := ⟨_, rfl⟩
              have YES : Hid (prB x y = true → ∀ (h1 : i < a2.length) (h2 : i < b2.length), prB a2[i] b2[i] = true) := fun h => YES0.out (by rw [ex, ey]; exact h)
              rw [ex] at NO li c0 c3 g1 g2
              rw [ey] at NO mi d0 d3 k1 k2
              clear YES0 ex ey hc1 hc2 e3 e4 e5 e6 hix hiy
              have C1 : ∀ X Y t z, TwoB wr X Y t z → Hid (Calls Try.prog 13 #[p1, q1] z fun e w' => e = .returned (.bool (alike strB x.uses y.uses)) ∧ TwoB wr X Y t w') := fun X Y t z hu =>
                (textsS_any p1 q1 x.uses y.uses z (g1.stays hu.bel) (k1.stays hu.bel) li.1 mi.1).mono fun e w1 ⟨h1, h2⟩ => ⟨h1, hu.stays h2⟩
              have C2 : ∀ X Y t z, TwoB wr X Y t z → Hid (Calls Try.prog 13 #[p2, q2] z fun e w' => e = .returned (.bool (alike strB x.vars y.vars)) ∧ TwoB wr X Y t w') := fun X Y t z hu =>
                (textsS_any p2 q2 x.vars y.vars z (g2.stays hu.bel) (k2.stays hu.bel) li.2 mi.2).mono fun e w1 ⟨h1, h2⟩ => ⟨h1, hu.stays h2⟩
              obtain ⟨ro1, rc1, rfl, _⟩ := g1
              obtain ⟨so1, sc1, rfl, _⟩ := k1
              obtain ⟨ro2, rc2, rfl, _⟩ := g2
              obtain ⟨so2, sc2, rfl, _⟩ := k2
              obtain ⟨x0, x1, x2, x3⟩ := x
              obtain ⟨y0, y1, y2, y3⟩ := y
              dsimp only at *
              clear li mi
              cases f0 : strB x0 y0 with
              | false =>
                have HF : Hid (s = false) := NO.out (by unfold prB; simp [f0])
                clear NO YES
                unfold strB at f0
                go_wp2
                go_ret
                exact ⟨by rw [HF.out]; rfl, T2.out.bel.trans ((TwoB.start wr _ _ _).bel.mono T2.out.bel.size)⟩
              | true =>
                cases f1 : alike strB x1 y1 with
                | false =>
                  have HF : Hid (s = false) := NO.out (by unfold prB; simp [f0, f1])
                  clear NO YES
                  unfold strB at f0
                  rw [f1] at C1
                  clear f1
                  go_wp2_with fail
                  refine (unhide (C1 _ _ _ _ (TwoB.start wr _ _ _))).mono ?_
                  rintro e z1 ⟨rfl, hu1⟩
                  have U1 := hide hu1
                  clear hu1
                  have u0 := Lib.cell_of_heap U1.out.bA 0
                  have v0 := Lib.cell_of_heap U1.out.bB 0
                  have u1 := Lib.cell_of_heap U1.out.bA 1
                  have v1 := Lib.cell_of_heap U1.out.bB 1
                  have u2 := Lib.cell_of_heap U1.out.bA 2
                  have v2 := Lib.cell_of_heap U1.out.bB 2
                  have u3 := Lib.cell_of_heap U1.out.bA 3
                  have v3 := Lib.cell_of_heap U1.out.bB 3
                  simp at u0 v0 u1 v1 u2 v2 u3 v3
                  go_wp2
                  go_ret
                  exact ⟨by rw [HF.out]; rfl, T2.out.bel.trans (U1.out.bel.mono T2.out.bel.size)⟩
                | true =>
                  cases f2 : alike strB x2 y2 with
                  | false =>
                    have HF : Hid (s = false) := NO.out (by unfold prB; simp [f0, f1, f2])
                    clear NO YES
                    unfold strB at f0
                    rw [f1] at C1
                    clear f1
                    rw [f2] at C2
                    clear f2
                    go_wp2_with fail
                    refine (unhide (C1 _ _ _ _ (TwoB.start wr _ _ _))).mono ?_
                    rintro e z1 ⟨rfl, hu1⟩
                    have U1 := hide hu1
                    clear hu1
                    have u0 := Lib.cell_of_heap U1.out.bA 0
                    have v0 := Lib.cell_of_heap U1.out.bB 0
                    have u1 := Lib.cell_of_heap U1.out.bA 1
                    have v1 := Lib.cell_of_heap U1.out.bB 1
                    have u2 := Lib.cell_of_heap U1.out.bA 2
                    have v2 := Lib.cell_of_heap U1.out.bB 2
                    have u3 := Lib.cell_of_heap U1.out.bA 3
                    have v3 := Lib.cell_of_heap U1.out.bB 3
                    simp at u0 v0 u1 v1 u2 v2 u3 v3
                    go_wp2_with fail
                    refine (unhide (C2 _ _ _ _ U1.out)).mono ?_
                    rintro e z2 ⟨rfl, hu2⟩
                    have U2 := hide hu2
                    clear hu2
                    clear u0 v0 u1 v1 u2 v2 u3 v3
                    have u0 := Lib.cell_of_heap U2.out.bA 0
                    have v0 := Lib.cell_of_heap U2.out.bB 0
                    have u1 := Lib.cell_of_heap U2.out.bA 1
                    have v1 := Lib.cell_of_heap U2.out.bB 1
                    have u2 := Lib.cell_of_heap U2.out.bA 2
                    have v2 := Lib.cell_of_heap U2.out.bB 2
                    have u3 := Lib.cell_of_heap U2.out.bA 3
                    have v3 := Lib.cell_of_heap U2.out.bB 3
                    simp at u0 v0 u1 v1 u2 v2 u3 v3
                    go_wp2
                    go_ret
                    exact ⟨by rw [HF.out]; rfl, T2.out.bel.trans (U2.out.bel.mono T2.out.bel.size)⟩
                  | true =>
                    cases f3 : intB x3 y3 with
                    | false =>
                      have HF : Hid (s = false) := NO.out (by unfold prB; simp [f0, f1, f2, f3])
                      clear NO YES
                      unfold strB at f0
                      unfold intB at f3
                      simp only [decide_eq_false_iff_not] at f3
                      rw [f1] at C1
                      clear f1
                      rw [f2] at C2
                      clear f2
                      go_wp2_with fail
                      refine (unhide (C1 _ _ _ _ (TwoB.start wr _ _ _))).mono ?_
                      rintro e z1 ⟨rfl, hu1⟩
                      have U1 := hide hu1
                      clear hu1
                      have u0 := Lib.cell_of_heap U1.out.bA 0
                      have v0 := Lib.cell_of_heap U1.out.bB 0
                      have u1 := Lib.cell_of_heap U1.out.bA 1
                      have v1 := Lib.cell_of_heap U1.out.bB 1
                      have u2 := Lib.cell_of_heap U1.out.bA 2
                      have v2 := Lib.cell_of_heap U1.out.bB 2
                      have u3 := Lib.cell_of_heap U1.out.bA 3
                      have v3 := Lib.cell_of_heap U1.out.bB 3
                      simp at u0 v0 u1 v1 u2 v2 u3 v3
                      go_wp2_with fail
                      refine (unhide (C2 _ _ _ _ U1.out)).mono ?_
                      rintro e z2 ⟨rfl, hu2⟩
                      have U2 := hide hu2
                      clear hu2
                      clear u0 v0 u1 v1 u2 v2 u3 v3
                      have u0 := Lib.cell_of_heap U2.out.bA 0
                      have v0 := Lib.cell_of_heap U2.out.bB 0
                      have u1 := Lib.cell_of_heap U2.out.bA 1
                      have v1 := Lib.cell_of_heap U2.out.bB 1
                      have u2 := Lib.cell_of_heap U2.out.bA 2
                      have v2 := Lib.cell_of_heap U2.out.bB 2
                      have u3 := Lib.cell_of_heap U2.out.bA 3
                      have v3 := Lib.cell_of_heap U2.out.bB 3
                      simp at u0 v0 u1 v1 u2 v2 u3 v3
                      go_wp2
                      go_ret
                      exact ⟨by rw [HF.out]; rfl, T2.out.bel.trans (U2.out.bel.mono T2.out.bel.size)⟩
                    | true =>
                      have YS := hide (YES.out (by unfold prB; simp [f0, f1, f2, f3]))
                      clear NO YES
                      unfold strB at f0
                      unfold intB at f3
                      simp only [decide_eq_true_eq] at f3
                      subst f3
                      rw [f1] at C1
                      clear f1
                      rw [f2] at C2
                      clear f2
                      go_wp2_with fail
                      refine (unhide (C1 _ _ _ _ (TwoB.start wr _ _ _))).mono ?_
                      rintro e z1 ⟨rfl, hu1⟩
                      have U1 := hide hu1
                      clear hu1
                      have u0 := Lib.cell_of_heap U1.out.bA 0
                      have v0 := Lib.cell_of_heap U1.out.bB 0
                      have u1 := Lib.cell_of_heap U1.out.bA 1
                      have v1 := Lib.cell_of_heap U1.out.bB 1
                      have u2 := Lib.cell_of_heap U1.out.bA 2
                      have v2 := Lib.cell_of_heap U1.out.bB 2
                      have u3 := Lib.cell_of_heap U1.out.bA 3
                      have v3 := Lib.cell_of_heap U1.out.bB 3
                      simp at u0 v0 u1 v1 u2 v2 u3 v3
                      go_wp2_with fail
                      refine (unhide (C2 _ _ _ _ U1.out)).mono ?_
                      rintro e z2 ⟨rfl, hu2⟩
                      have U2 := hide hu2
                      clear hu2
                      clear u0 v0 u1 v1 u2 v2 u3 v3
                      have u0 := Lib.cell_of_heap U2.out.bA 0
                      have v0 := Lib.cell_of_heap U2.out.bB 0
                      have u1 := Lib.cell_of_heap U2.out.bA 1
                      have v1 := Lib.cell_of_heap U2.out.bB 1
                      have u2 := Lib.cell_of_heap U2.out.bA 2
                      have v2 := Lib.cell_of_heap U2.out.bB 2
                      have u3 := Lib.cell_of_heap U2.out.bA 3
                      have v3 := Lib.cell_of_heap U2.out.bB 3
                      simp at u0 v0 u1 v1 u2 v2 u3 v3
                      go_wp2
                      go_roundw
                      case rel => exact ⟨i + 1, by omega, by go_num, T2.out.stays U2.out.bel, step_all HA.out YS.out⟩
                      case measure => simp [intOf]; omega
            · have hlt' : ¬ (i : Int) < (n2 : Int) := by omega
              have AL2 : Hid (alike prB a2 b2 = true) := alike_all _ _ _ (EN2.out.trans EM2.out.symm) fun j k1 k2 => HA.out j k1 k2 (by have := EN2.out; omega)
              clear HA hlt hi
              go_wp2
              have HF : Hid (s = true) := by rw [← ES.out]; show _ = _; unfold pgB; rw [AL0.out, AL1.out, AL2.out]; rfl
              go_ret
              exact ⟨by rw [HF.out]; rfl, T2.out.bel⟩
end Go.Proofs.Ytnkdichgdnghcaa
