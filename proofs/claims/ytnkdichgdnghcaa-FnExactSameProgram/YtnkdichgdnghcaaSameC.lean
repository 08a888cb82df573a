/-
  Rows of nodes, monitors and processes held against each other, by the program.
-/
import Derived.Test.YtnkdichgdnghcaaSameB
namespace Go.Proofs.Ytnkdichgdnghcaa
open Go.RowKit

set_option maxRecDepth 100000 in
set_option maxHeartbeats 2000000 in
theorem eqfNd_any (v1 v2 : Value) (xs ys : List Nd) (w : World) (h1 : NdsAt w v1 xs) (h2 : NdsAt w v2 ys) (hl : xs.length ≤ 1048576) (_hm : ys.length ≤ 1048576) (hin : ∀ x ∈ xs, x.kids.length ≤ 1048576) (kin : ∀ x ∈ ys, x.kids.length ≤ 1048576) :
    Calls Try.prog 17 #[v1, v2, .func (.func 18) #[] #[]] w fun e w' => e = .returned (.bool (alike ndB xs ys)) ∧ Below w.heap.size w w' := by
  have H1 := hide h1
  have H2 := hide h2
  obtain ⟨ao, c, rfl, _⟩ := h1
  obtain ⟨bo, d, rfl, _⟩ := h2
  obtain ⟨q, eq⟩ : ∃ q, alike ndB xs ys = q := ⟨_, rfl⟩
  have EQ := hide eq
  rw [eq]
  clear eq
  by_cases hn : xs.length = ys.length
  · obtain ⟨n, en⟩ : ∃ n, xs.length = n := ⟨_, rfl⟩
    have EN := hide en
    have EM := hide (hn.symm.trans en)
    rw [en] at H1 hl ⊢
    rw [hn.symm.trans en] at H2 ⊢
    clear hn en _hm
    go_enter Try.func17, Try.ntmps17
    go_wp2
    go_loopw [17] (AlkR ndB w xs ys n) (fun iv _ => n - (intOf iv).toNat)
    case atStart => exact ⟨0, by omega, rfl, Below.refl _ _, fun j _ _ hj => absurd hj (Nat.not_lt_zero j)⟩
    case round =>
      obtain ⟨i, hi, rfl, HB2, HA⟩ := hrel
      by_cases hlt : i < n
      · have hlt' : (i : Int) < (n : Int) := by omega
        have hi0 : (0 : Int) ≤ (i : Int) := by omega
        have hix : i < xs.length := by rw [EN.out]; exact hlt
        have hiy : i < ys.length := by rw [EM.out]; exact hlt
        obtain ⟨ao', c', e1, hc1⟩ := H1.out.stays HB2.out
        injection e1 with e2 e3 e4
        subst e2
        obtain ⟨bo', d', e1, hc2⟩ := H2.out.stays HB2.out
        injection e1 with e2 e5 e6
        subst e2
        obtain ⟨a, p5, rfl, hpb, hx⟩ := hc1 i hix
        obtain ⟨b, q5, rfl, hqb, hy⟩ := hc2 i hiy
        obtain ⟨p, hpa⟩ : ∃ p, a.add (i * 6) = p := ⟨_, rfl⟩
        obtain ⟨q', hqa⟩ : ∃ q', b.add (i * 6) = q' := ⟨_, rfl⟩
        rw [← block_add a (i * 6), hpa] at hpb
        rw [← block_add b (i * 6), hqa] at hqb
        rw [hpa] at hx
        rw [hqa] at hy
        obtain ⟨c0, c1, c2, c3, c4, c5, g5⟩ := hx
        obtain ⟨d0, d1, d2, d3, d4, d5, k5⟩ := hy
        have NO : Hid (ndB xs[i] ys[i] = false → q = false) := fun h => EQ.out.symm.trans (alike_no _ _ _ _ hix hiy h)
        have YES0 : Hid (ndB xs[i] ys[i] = true → ∀ (h1 : i < xs.length) (h2 : i < ys.length), ndB xs[i] ys[i] = true) := fun h _ _ => h
        have li := hin _ (List.getElem_mem hix)
        have mi := kin _ (List.getElem_mem hiy)
        obtain ⟨x, ex⟩ : ∃ x, xs[i] = x := ⟨_, rfl⟩
        obtain ⟨y, ey⟩ : ∃ y, ys[i] = y := ⟨_, rfl⟩
        have YES : Hid (ndB x y = true → ∀ (h1 : i < xs.length) (h2 : i < ys.length), ndB xs[i] ys[i] = true) := fun h => YES0.out (by rw [ex, ey]; exact h)
        rw [ex] at NO li c0 c1 c2 c3 c4 g5
        rw [ey] at NO mi d0 d1 d2 d3 d4 k5
        clear YES0 ex ey hc1 hc2 e3 e4 e5 e6 hix hiy
        have C : ∀ z, Below wr.heap.size wr z → Hid (Calls Try.prog 18 #[.agg #[.int .i64 x.kind, .int .i64 x.num, .string x.name, .string x.more, .string x.into, p5], .agg #[.int .i64 y.kind, .int .i64 y.num, .string y.name, .string y.more, .string y.into, q5]] z fun e w' => e = .returned (.bool (ndB x y)) ∧ Below wr.heap.size wr w') := fun z hb0 =>
          (sameNd_any x y p5 q5 z (g5.stays hb0) (k5.stays hb0) li mi).mono fun e w1 ⟨h1, h2⟩ => ⟨h1, hb0.trans (h2.mono hb0.size)⟩
        obtain ⟨ro5, rc5, rfl, _⟩ := g5
        obtain ⟨so5, sc5, rfl, _⟩ := k5
        clear li mi
        cases hxy : ndB x y with
        | false =>
          have HF : Hid (q = false) := NO.out hxy
          rw [hxy] at C
          clear NO YES hxy
          go_wp2_with fail
          refine (unhide (C _ (by go_grown))).mono ?_
          rintro e w1 ⟨rfl, hb1⟩
          have HB3 := hide (HB2.out.trans (hb1.mono HB2.out.size))
          clear hb1
          go_wp2
          go_ret
          exact ⟨by rw [HF.out]; rfl, HB3.out⟩
        | true =>
          have YS := hide (YES.out hxy)
          rw [hxy] at C
          clear NO YES hxy
          go_wp2_with fail
          refine (unhide (C _ (by go_grown))).mono ?_
          rintro e w1 ⟨rfl, hb1⟩
          have HB3 := hide (HB2.out.trans (hb1.mono HB2.out.size))
          clear hb1
          go_wp2
          go_roundw
          case rel => exact ⟨i + 1, by omega, by go_num, HB3.out, step_all HA.out YS.out⟩
          case measure => simp [intOf]; omega
      · have hlt' : ¬ (i : Int) < (n : Int) := by omega
        have HF : Hid (q = true) := EQ.out.symm.trans (alike_all _ _ _ (EN.out.trans EM.out.symm) fun j k1 k2 => HA.out j k1 k2 (by have := EN.out; omega))
        go_wp2
        go_ret
        exact ⟨by rw [HF.out]; rfl, HB2.out⟩
  · have hn' : ¬ (xs.length : Int) = (ys.length : Int) := by omega
    have HF : Hid (q = false) := EQ.out.symm.trans (alike_len _ _ _ hn)
    obtain ⟨n, en⟩ : ∃ n, xs.length = n := ⟨_, rfl⟩
    obtain ⟨m, em⟩ : ∃ m, ys.length = m := ⟨_, rfl⟩
    rw [en, em] at hn'
    rw [en] at H1 ⊢
    rw [em] at H2 ⊢
    clear en em hn hl _hm
    go_enter Try.func17, Try.ntmps17
    go_wp2
    go_ret
    exact ⟨by rw [HF.out]; rfl, Below.refl _ _⟩
set_option maxRecDepth 100000 in
set_option maxHeartbeats 2000000 in
theorem eqfMo_any (v1 v2 : Value) (xs ys : List Mo) (w : World) (h1 : MosAt w v1 xs) (h2 : MosAt w v2 ys) (hl : xs.length ≤ 1048576) (_hm : ys.length ≤ 1048576) (hin : ∀ x ∈ xs, x.vars.length ≤ 1048576 ∧ x.queues.length ≤ 1048576 ∧ x.ents.length ≤ 1048576) (kin : ∀ x ∈ ys, x.vars.length ≤ 1048576 ∧ x.queues.length ≤ 1048576 ∧ x.ents.length ≤ 1048576) :
    Calls Try.prog 19 #[v1, v2, .func (.func 20) #[] #[]] w fun e w' => e = .returned (.bool (alike moB xs ys)) ∧ Below w.heap.size w w' := by
  have H1 := hide h1
  have H2 := hide h2
  obtain ⟨ao, c, rfl, _⟩ := h1
  obtain ⟨bo, d, rfl, _⟩ := h2
  obtain ⟨q, eq⟩ : ∃ q, alike moB xs ys = q := ⟨_, rfl⟩
  have EQ := hide eq
  rw [eq]
  clear eq
  by_cases hn : xs.length = ys.length
  · obtain ⟨n, en⟩ : ∃ n, xs.length = n := ⟨_, rfl⟩
    have EN := hide en
    have EM := hide (hn.symm.trans en)
    rw [en] at H1 hl ⊢
    rw [hn.symm.trans en] at H2 ⊢
    clear hn en _hm
    go_enter Try.func19, Try.ntmps19
    go_wp2
    go_loopw [17] (AlkR moB w xs ys n) (fun iv _ => n - (intOf iv).toNat)
    case atStart => exact ⟨0, by omega, rfl, Below.refl _ _, fun j _ _ hj => absurd hj (Nat.not_lt_zero j)⟩
    case round =>
      obtain ⟨i, hi, rfl, HB2, HA⟩ := hrel
      by_cases hlt : i < n
      · have hlt' : (i : Int) < (n : Int) := by omega
        have hi0 : (0 : Int) ≤ (i : Int) := by omega
        have hix : i < xs.length := by rw [EN.out]; exact hlt
        have hiy : i < ys.length := by rw [EM.out]; exact hlt
        obtain ⟨ao', c', e1, hc1⟩ := H1.out.stays HB2.out
        injection e1 with e2 e3 e4
        subst e2
        obtain ⟨bo', d', e1, hc2⟩ := H2.out.stays HB2.out
        injection e1 with e2 e5 e6
        subst e2
        obtain ⟨a, p1, p2, p3, rfl, hpb, hx⟩ := hc1 i hix
        obtain ⟨b, q1, q2, q3, rfl, hqb, hy⟩ := hc2 i hiy
        obtain ⟨p, hpa⟩ : ∃ p, a.add (i * 4) = p := ⟨_, rfl⟩
        obtain ⟨q', hqa⟩ : ∃ q', b.add (i * 4) = q' := ⟨_, rfl⟩
        rw [← block_add a (i * 4), hpa] at hpb
        rw [← block_add b (i * 4), hqa] at hqb
        rw [hpa] at hx
        rw [hqa] at hy
        obtain ⟨c0, c1, c2, c3, g1, g2, g3⟩ := hx
        obtain ⟨d0, d1, d2, d3, k1, k2, k3⟩ := hy
        have NO : Hid (moB xs[i] ys[i] = false → q = false) := fun h => EQ.out.symm.trans (alike_no _ _ _ _ hix hiy h)
        have YES0 : Hid (moB xs[i] ys[i] = true → ∀ (h1 : i < xs.length) (h2 : i < ys.length), moB xs[i] ys[i] = true) := fun h _ _ => h
        have li := hin _ (List.getElem_mem hix)
        have mi := kin _ (List.getElem_mem hiy)
        obtain ⟨x, ex⟩ : ∃ x, xs[i] = x := ⟨_, rfl⟩
        obtain ⟨y, ey⟩ : ∃ y, ys[i] = y := ⟨_, rfl⟩
        have YES : Hid (moB x y = true → ∀ (h1 : i < xs.length) (h2 : i < ys.length), moB xs[i] ys[i] = true) := fun h => YES0.out (by rw [ex, ey]; exact h)
        rw [ex] at NO li c0 g1 g2 g3
        rw [ey] at NO mi d0 k1 k2 k3
        clear YES0 ex ey hc1 hc2 e3 e4 e5 e6 hix hiy
        have C : ∀ z, Below wr.heap.size wr z → Hid (Calls Try.prog 20 #[.agg #[.string x.name, p1, p2, p3], .agg #[.string y.name, q1, q2, q3]] z fun e w' => e = .returned (.bool (moB x y)) ∧ Below wr.heap.size wr w') := fun z hb0 =>
          (sameMo_any x y p1 q1 p2 q2 p3 q3 z (g1.stays hb0) (k1.stays hb0) li.1 mi.1 (g2.stays hb0) (k2.stays hb0) li.2.1 mi.2.1 (g3.stays hb0) (k3.stays hb0) li.2.2 mi.2.2).mono fun e w1 ⟨h1, h2⟩ => ⟨h1, hb0.trans (h2.mono hb0.size)⟩
        obtain ⟨ro1, rc1, rfl, _⟩ := g1
        obtain ⟨so1, sc1, rfl, _⟩ := k1
        obtain ⟨ro2, rc2, rfl, _⟩ := g2
        obtain ⟨so2, sc2, rfl, _⟩ := k2
        obtain ⟨ro3, rc3, rfl, _⟩ := g3
        obtain ⟨so3, sc3, rfl, _⟩ := k3
        clear li mi
        cases hxy : moB x y with
        | false =>
          have HF : Hid (q = false) := NO.out hxy
          rw [hxy] at C
          clear NO YES hxy
          go_wp2_with fail
          refine (unhide (C _ (by go_grown))).mono ?_
          rintro e w1 ⟨rfl, hb1⟩
          have HB3 := hide (HB2.out.trans (hb1.mono HB2.out.size))
          clear hb1
          go_wp2
          go_ret
          exact ⟨by rw [HF.out]; rfl, HB3.out⟩
        | true =>
          have YS := hide (YES.out hxy)
          rw [hxy] at C
          clear NO YES hxy
          go_wp2_with fail
          refine (unhide (C _ (by go_grown))).mono ?_
          rintro e w1 ⟨rfl, hb1⟩
          have HB3 := hide (HB2.out.trans (hb1.mono HB2.out.size))
          clear hb1
          go_wp2
          go_roundw
          case rel => exact ⟨i + 1, by omega, by go_num, HB3.out, step_all HA.out YS.out⟩
          case measure => simp [intOf]; omega
      · have hlt' : ¬ (i : Int) < (n : Int) := by omega
        have HF : Hid (q = true) := EQ.out.symm.trans (alike_all _ _ _ (EN.out.trans EM.out.symm) fun j k1 k2 => HA.out j k1 k2 (by have := EN.out; omega))
        go_wp2
        go_ret
        exact ⟨by rw [HF.out]; rfl, HB2.out⟩
  · have hn' : ¬ (xs.length : Int) = (ys.length : Int) := by omega
    have HF : Hid (q = false) := EQ.out.symm.trans (alike_len _ _ _ hn)
    obtain ⟨n, en⟩ : ∃ n, xs.length = n := ⟨_, rfl⟩
    obtain ⟨m, em⟩ : ∃ m, ys.length = m := ⟨_, rfl⟩
    rw [en, em] at hn'
    rw [en] at H1 ⊢
    rw [em] at H2 ⊢
    clear en em hn hl _hm
    go_enter Try.func19, Try.ntmps19
    go_wp2
    go_ret
    exact ⟨by rw [HF.out]; rfl, Below.refl _ _⟩
set_option maxRecDepth 100000 in
set_option maxHeartbeats 2000000 in
theorem eqfPr_any (v1 v2 : Value) (xs ys : List Pr) (w : World) (h1 : PrsAt w v1 xs) (h2 : PrsAt w v2 ys) (hl : xs.length ≤ 1048576) (_hm : ys.length ≤ 1048576) (hin : ∀ x ∈ xs, x.uses.length ≤ 1048576 ∧ x.vars.length ≤ 1048576) (kin : ∀ x ∈ ys, x.uses.length ≤ 1048576 ∧ x.vars.length ≤ 1048576) :
    Calls Try.prog 21 #[v1, v2, .func (.func 22) #[] #[]] w fun e w' => e = .returned (.bool (alike prB xs ys)) ∧ Below w.heap.size w w' := by
  have H1 := hide h1
  have H2 := hide h2
  obtain ⟨ao, c, rfl, _⟩ := h1
  obtain ⟨bo, d, rfl, _⟩ := h2
  obtain ⟨q, eq⟩ : ∃ q, alike prB xs ys = q := ⟨_, rfl⟩
  have EQ := hide eq
  rw [eq]
  clear eq
  by_cases hn : xs.length = ys.length
  · obtain ⟨n, en⟩ : ∃ n, xs.length = n := ⟨_, rfl⟩
    have EN := hide en
    have EM := hide (hn.symm.trans en)
    rw [en] at H1 hl ⊢
    rw [hn.symm.trans en] at H2 ⊢
    clear hn en _hm
    go_enter Try.func21, Try.ntmps21
    go_wp2
    go_loopw [17] (AlkR prB w xs ys n) (fun iv _ => n - (intOf iv).toNat)
    case atStart => exact ⟨0, by omega, rfl, Below.refl _ _, fun j _ _ hj => absurd hj (Nat.not_lt_zero j)⟩
    case round =>
      obtain ⟨i, hi, rfl, HB2, HA⟩ := hrel
      by_cases hlt : i < n
      · have hlt' : (i : Int) < (n : Int) := by omega
        have hi0 : (0 : Int) ≤ (i : Int) := by omega
        have hix : i < xs.length := by rw [EN.out]; exact hlt
        have hiy : i < ys.length := by rw [EM.out]; exact hlt
        obtain ⟨ao', c', e1, hc1⟩ := H1.out.stays HB2.out
        injection e1 with e2 e3 e4
        subst e2
        obtain ⟨bo', d', e1, hc2⟩ := H2.out.stays HB2.out
        injection e1 with e2 e5 e6
        subst e2
        obtain ⟨a, p1, p2, rfl, hpb, hx⟩ := hc1 i hix
        obtain ⟨b, q1, q2, rfl, hqb, hy⟩ := hc2 i hiy
        obtain ⟨p, hpa⟩ : ∃ p, a.add (i * 4) = p := ⟨_, rfl⟩
        obtain ⟨q', hqa⟩ : ∃ q', b.add (i * 4) = q' := ⟨_, rfl⟩
        rw [← block_add a (i * 4), hpa] at hpb
        rw [← block_add b (i * 4), hqa] at hqb
        rw [hpa] at hx
        rw [hqa] at hy
        obtain ⟨c0, c1, c2, c3, g1, g2⟩ := hx
        obtain ⟨d0, d1, d2, d3, k1, k2⟩ := hy
        have NO : Hid (prB xs[i] ys[i] = false → q = false) := fun h => EQ.out.symm.trans (alike_no _ _ _ _ hix hiy h)
        have YES0 : Hid (prB xs[i] ys[i] = true → ∀ (h1 : i < xs.length) (h2 : i < ys.length), prB xs[i] ys[i] = true) := fun h _ _ => h
        have li := hin _ (List.getElem_mem hix)
        have mi := kin _ (List.getElem_mem hiy)
        obtain ⟨x, ex⟩ : ∃ x, xs[i] = x := ⟨_, rfl⟩
        obtain ⟨y, ey⟩ : ∃ y, ys[i] = y := ⟨_, rfl⟩
        have YES : Hid (prB x y = true → ∀ (h1 : i < xs.length) (h2 : i < ys.length), prB xs[i] ys[i] = true) := fun h => YES0.out (by rw [ex, ey]; exact h)
        rw [ex] at NO li c0 c3 g1 g2
        rw [ey] at NO mi d0 d3 k1 k2
        clear YES0 ex ey hc1 hc2 e3 e4 e5 e6 hix hiy
        have C : ∀ z, Below wr.heap.size wr z → Hid (Calls Try.prog 22 #[.agg #[.string x.name, p1, p2, .int .i64 x.body], .agg #[.string y.name, q1, q2, .int .i64 y.body]] z fun e w' => e = .returned (.bool (prB x y)) ∧ Below wr.heap.size wr w') := fun z hb0 =>
          (samePr_any x y p1 q1 p2 q2 z (g1.stays hb0) (k1.stays hb0) li.1 mi.1 (g2.stays hb0) (k2.stays hb0) li.2 mi.2).mono fun e w1 ⟨h1, h2⟩ => ⟨h1, hb0.trans (h2.mono hb0.size)⟩
        obtain ⟨ro1, rc1, rfl, _⟩ := g1
        obtain ⟨so1, sc1, rfl, _⟩ := k1
        obtain ⟨ro2, rc2, rfl, _⟩ := g2
        obtain ⟨so2, sc2, rfl, _⟩ := k2
        clear li mi
        cases hxy : prB x y with
        | false =>
          have HF : Hid (q = false) := NO.out hxy
          rw [hxy] at C
          clear NO YES hxy
          go_wp2_with fail
          refine (unhide (C _ (by go_grown))).mono ?_
          rintro e w1 ⟨rfl, hb1⟩
          have HB3 := hide (HB2.out.trans (hb1.mono HB2.out.size))
          clear hb1
          go_wp2
          go_ret
          exact ⟨by rw [HF.out]; rfl, HB3.out⟩
        | true =>
          have YS := hide (YES.out hxy)
          rw [hxy] at C
          clear NO YES hxy
          go_wp2_with fail
          refine (unhide (C _ (by go_grown))).mono ?_
          rintro e w1 ⟨rfl, hb1⟩
          have HB3 := hide (HB2.out.trans (hb1.mono HB2.out.size))
          clear hb1
          go_wp2
          go_roundw
          case rel => exact ⟨i + 1, by omega, by go_num, HB3.out, step_all HA.out YS.out⟩
          case measure => simp [intOf]; omega
      · have hlt' : ¬ (i : Int) < (n : Int) := by omega
        have HF : Hid (q = true) := EQ.out.symm.trans (alike_all _ _ _ (EN.out.trans EM.out.symm) fun j k1 k2 => HA.out j k1 k2 (by have := EN.out; omega))
        go_wp2
        go_ret
        exact ⟨by rw [HF.out]; rfl, HB2.out⟩
  · have hn' : ¬ (xs.length : Int) = (ys.length : Int) := by omega
    have HF : Hid (q = false) := EQ.out.symm.trans (alike_len _ _ _ hn)
    obtain ⟨n, en⟩ : ∃ n, xs.length = n := ⟨_, rfl⟩
    obtain ⟨m, em⟩ : ∃ m, ys.length = m := ⟨_, rfl⟩
    rw [en, em] at hn'
    rw [en] at H1 ⊢
    rw [em] at H2 ⊢
    clear en em hn hl _hm
    go_enter Try.func21, Try.ntmps21
    go_wp2
    go_ret
    exact ⟨by rw [HF.out]; rfl, Below.refl _ _⟩
end Go.Proofs.Ytnkdichgdnghcaa
