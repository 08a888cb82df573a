/-
  Rows held against each other: numbers, texts, entries; by the program and by the specification.
-/
import Derived.Test.YtnkdichgdnghcaaLawI
import Derived.Test.YtnkdichgdnghcaaLawE
import Derived.Laws.StructEq
namespace Go.Proofs.Ytnkdichgdnghcaa
open Go.RowKit

/-- Are two rows the same, place by place? -/
def alike {α : Type} (f : α → α → Bool) : List α → List α → Bool
  | [], [] => true
  | x :: xs, y :: ys => f x y && alike f xs ys
  | _, _ => false
theorem alike_len {α : Type} (f : α → α → Bool) : ∀ (xs ys : List α), xs.length ≠ ys.length → alike f xs ys = false
  | [], [], h => absurd rfl h
  | [], _ :: _, _ => rfl
  | _ :: _, [], _ => rfl
  | x :: xs, y :: ys, h => by
    rw [alike, alike_len f xs ys (fun e => h (by rw [List.length_cons, List.length_cons, e])), Bool.and_false]
theorem alike_all {α : Type} (f : α → α → Bool) : ∀ (xs ys : List α), xs.length = ys.length → (∀ (j : Nat) (h1 : j < xs.length) (h2 : j < ys.length), f xs[j] ys[j] = true) → alike f xs ys = true
  | [], [], _, _ => rfl
  | x :: xs, y :: ys, h, k => by
    have e0 := k 0 (by simp) (by simp)
    rw [alike, alike_all f xs ys (by simpa using h) (fun j h1 h2 => by
      have := k (j + 1) (by simpa using h1) (by simpa using h2)
      simpa using this)]
    simpa using e0
theorem alike_no {α : Type} (f : α → α → Bool) : ∀ (xs ys : List α) (j : Nat) (h1 : j < xs.length) (h2 : j < ys.length), f xs[j] ys[j] = false → alike f xs ys = false
  | x :: xs, y :: ys, 0, _, _, e => by
    have e' : f x y = false := e
    rw [alike, e', Bool.false_and]
  | x :: xs, y :: ys, j + 1, h1, h2, e => by
    rw [alike, alike_no f xs ys j (by simpa using h1) (by simpa using h2) (by simpa using e), Bool.and_false]
def intB (x y : Int) : Bool := decide (x = y)
def strB (x y : ByteArray) : Bool := x.toList == y.toList
def enB (x y : En) : Bool := strB x.name y.name && strB x.param y.param && intB x.body y.body

/-- How far two rows are held against each other. -/
def AlkR {α : Type} (f : α → α → Bool) (w : World) (xs ys : List α) (n : Nat) (iv : Value) (wr : World) : Prop :=
  ∃ i : Nat, i ≤ n ∧ iv = .int .i64 i ∧ Hid (Below w.heap.size w wr) ∧ Hid (∀ (j : Nat) (h1 : j < xs.length) (h2 : j < ys.length), j < i → f xs[j] ys[j] = true)
theorem step_all {α : Type} {f : α → α → Bool} {xs ys : List α} {i : Nat} (k : ∀ (j : Nat) (h1 : j < xs.length) (h2 : j < ys.length), j < i → f xs[j] ys[j] = true)
    (e : ∀ (h1 : i < xs.length) (h2 : i < ys.length), f xs[i] ys[i] = true) : ∀ (j : Nat) (h1 : j < xs.length) (h2 : j < ys.length), j < i + 1 → f xs[j] ys[j] = true := fun j h1 h2 hj => by
  rcases Nat.lt_succ_iff_lt_or_eq.1 hj with h | h
  · exact k j h1 h2 h
  · subst h; exact e h1 h2

theorem run_neq_entry (w : World) (a b a' b' : ByteArray) (c c' : Int) : (binOp .neq 49 (.agg #[.string a, .string b, .int .i64 c]) (.agg #[.string a', .string b', .int .i64 c'])).run Try.prog w
    = .ok (.bool (!(enB ⟨a, b, c⟩ ⟨a', b', c'⟩))) w := by
  rw [run_neq_struct, run_equalIn_agg w _ _ _ _ (by kernel_rfl) (by kernel_rfl)]
  simp only [Program.fieldsOf, Try.underlying49]
  unfold enB strB intB
  cases h1 : (a.toList == a'.toList) <;> cases h2 : (b.toList == b'.toList) <;> by_cases h3 : c = c' <;> simp [go_sem, h1, h2, h3]


set_option maxRecDepth 100000 in
set_option maxHeartbeats 1000000 in
theorem equalI_any (v1 v2 : Value) (xs ys : List Int) (w : World) (h1 : IntsAt w v1 xs) (h2 : IntsAt w v2 ys) (hl : xs.length ≤ 1048576) (_hm : ys.length ≤ 1048576) :
    Calls Try.prog 32 #[v1, v2] w fun e w' => e = .returned (.bool (alike intB xs ys)) ∧ Below w.heap.size w w' := by
  have H1 := hide h1
  have H2 := hide h2
  obtain ⟨ao, c, rfl, _⟩ := h1
  obtain ⟨bo, d, rfl, _⟩ := h2
  obtain ⟨q, eq⟩ : ∃ q, alike intB xs ys = q := ⟨_, rfl⟩
  have EQ := hide eq
  rw [eq]
  clear eq
  by_cases hn : xs.length = ys.length
  · obtain ⟨n, en⟩ : ∃ n, xs.length = n := ⟨_, rfl⟩
    have EN := hide en
    have EM := hide (hn.symm.trans en)
    rw [en] at H1 hl ⊢
    rw [hn.symm.trans en] at H2 ⊢
    clear hn en _hm
    go_enter Try.func32, Try.ntmps32
    go_wp2
    go_loopw [13] (AlkR intB w xs ys n) (fun iv _ => n - (intOf iv).toNat)
    case atStart => exact ⟨0, by omega, rfl, Below.refl _ _, fun j _ _ hj => absurd hj (Nat.not_lt_zero j)⟩
    case round =>
      obtain ⟨i, hi, rfl, HB2, HA⟩ := hrel
      by_cases hlt : i < n
      · have hlt' : (i : Int) < (n : Int) := by omega
        have hi0 : (0 : Int) ≤ (i : Int) := by omega
        have hix : i < xs.length := by rw [EN.out]; exact hlt
        have hiy : i < ys.length := by rw [EM.out]; exact hlt
        obtain ⟨ao', c', e1, hc1⟩ := H1.out.stays HB2.out
        injection e1 with e2 e3 e4
        subst e2
        obtain ⟨bo', d', e1, hc2⟩ := H2.out.stays HB2.out
        injection e1 with e2 e5 e6
        subst e2
        obtain ⟨a, rfl, _, hx⟩ := hc1 i hix
        obtain ⟨b, rfl, _, hy⟩ := hc2 i hiy
        have NO : Hid (intB xs[i] ys[i] = false → q = false) := fun h => EQ.out.symm.trans (alike_no _ _ _ _ hix hiy h)
        have YES0 : Hid (intB xs[i] ys[i] = true → ∀ (h1 : i < xs.length) (h2 : i < ys.length), intB xs[i] ys[i] = true) := fun h _ _ => h
        obtain ⟨x, ex⟩ : ∃ x, xs[i] = x := ⟨_, rfl⟩
        obtain ⟨y, ey⟩ : ∃ y, ys[i] = y := ⟨_, rfl⟩
        rw [ex] at hx NO
        rw [ey] at hy NO
        have YES : Hid (intB x y = true → ∀ (h1 : i < xs.length) (h2 : i < ys.length), intB xs[i] ys[i] = true) := fun h => YES0.out (by rw [ex, ey]; exact h)
        clear YES0 ex ey hc1 hc2 e3 e4 e5 e6 hix hiy

        cases hxy : intB x y with
        | false =>
          have HF : Hid (q = false) := NO.out hxy
          clear NO YES
          unfold intB at hxy
          simp only [decide_eq_false_iff_not] at hxy
          try subst hxy
          go_wp2
          go_region
          all_goals go_wp2
          all_goals go_ret
          all_goals exact ⟨by rw [HF.out]; rfl, HB2.out.drew⟩
        | true =>
          have YS := hide (YES.out hxy)
          clear NO YES
          unfold intB at hxy
          simp only [decide_eq_true_eq] at hxy
          try subst hxy
          go_wp2
          go_region
          all_goals go_wp2
          go_roundw
          case rel => exact ⟨i + 1, by omega, by go_num, HB2.out.drew, step_all HA.out YS.out⟩
          case measure => simp [intOf]; omega
      · have hlt' : ¬ (i : Int) < (n : Int) := by omega
        have HF : Hid (q = true) := EQ.out.symm.trans (alike_all _ _ _ (EN.out.trans EM.out.symm) fun j k1 k2 => HA.out j k1 k2 (by have := EN.out; omega))
        go_wp2
        go_ret
        exact ⟨by rw [HF.out]; rfl, HB2.out⟩
  · have hn' : ¬ (xs.length : Int) = (ys.length : Int) := by omega
    have HF : Hid (q = false) := EQ.out.symm.trans (alike_len _ _ _ hn)
    obtain ⟨n, en⟩ : ∃ n, xs.length = n := ⟨_, rfl⟩
    obtain ⟨m, em⟩ : ∃ m, ys.length = m := ⟨_, rfl⟩
    rw [en, em] at hn'
    rw [en] at H1 ⊢
    rw [em] at H2 ⊢
    clear en em hn hl _hm
    go_enter Try.func32, Try.ntmps32
    go_wp2
    go_ret
    exact ⟨by rw [HF.out]; rfl, Below.refl _ _⟩


set_option maxRecDepth 100000 in
set_option maxHeartbeats 1000000 in
theorem intsI_any (v1 v2 : Value) (xs ys : List Int) (w : World) (h1 : IntsAt w v1 xs) (h2 : IntsAt w v2 ys) (hl : xs.length ≤ 1048576) (_hm : ys.length ≤ 1048576) :
    Calls Try.prog 12 #[v1, v2] w fun e w' => e = .returned (.bool (alike intB xs ys)) ∧ Below w.heap.size w w' := by
  have H1 := hide h1
  have H2 := hide h2
  obtain ⟨ao, c, rfl, _⟩ := h1
  obtain ⟨bo, d, rfl, _⟩ := h2
  obtain ⟨q, eq⟩ : ∃ q, alike intB xs ys = q := ⟨_, rfl⟩
  have EQ := hide eq
  rw [eq]
  clear eq
  by_cases hn : xs.length = ys.length
  · obtain ⟨n, en⟩ : ∃ n, xs.length = n := ⟨_, rfl⟩
    have EN := hide en
    have EM := hide (hn.symm.trans en)
    rw [en] at H1 hl ⊢
    rw [hn.symm.trans en] at H2 ⊢
    clear hn en _hm
    go_enter Try.func12, Try.ntmps12
    go_wp2
    go_loopw [5] (AlkR intB w xs ys n) (fun iv _ => n - (intOf iv).toNat)
    case atStart => exact ⟨0, by omega, rfl, Below.refl _ _, fun j _ _ hj => absurd hj (Nat.not_lt_zero j)⟩
    case round =>
      obtain ⟨i, hi, rfl, HB2, HA⟩ := hrel
      by_cases hlt : i < n
      · have hlt' : (i : Int) < (n : Int) := by omega
        have hi0 : (0 : Int) ≤ (i : Int) := by omega
        have hix : i < xs.length := by rw [EN.out]; exact hlt
        have hiy : i < ys.length := by rw [EM.out]; exact hlt
        obtain ⟨ao', c', e1, hc1⟩ := H1.out.stays HB2.out
        injection e1 with e2 e3 e4
        subst e2
        obtain ⟨bo', d', e1, hc2⟩ := H2.out.stays HB2.out
        injection e1 with e2 e5 e6
        subst e2
        obtain ⟨a, rfl, _, hx⟩ := hc1 i hix
        obtain ⟨b, rfl, _, hy⟩ := hc2 i hiy
        have NO : Hid (intB xs[i] ys[i] = false → q = false) := fun h => EQ.out.symm.trans (alike_no _ _ _ _ hix hiy h)
        have YES0 : Hid (intB xs[i] ys[i] = true → ∀ (h1 : i < xs.length) (h2 : i < ys.length), intB xs[i] ys[i] = true) := fun h _ _ => h
        obtain ⟨x, ex⟩ : ∃ x, xs[i] = x := ⟨_, rfl⟩
        obtain ⟨y, ey⟩ : ∃ y, ys[i] = y := ⟨_, rfl⟩
        rw [ex] at hx NO
        rw [ey] at hy NO
        have YES : Hid (intB x y = true → ∀ (h1 : i < xs.length) (h2 : i < ys.length), intB xs[i] ys[i] = true) := fun h => YES0.out (by rw [ex, ey]; exact h)
        clear YES0 ex ey hc1 hc2 e3 e4 e5 e6 hix hiy

        cases hxy : intB x y with
        | false =>
          have HF : Hid (q = false) := NO.out hxy
          clear NO YES
          unfold intB at hxy
          simp only [decide_eq_false_iff_not] at hxy
          try subst hxy
          go_wp2
          go_region
          all_goals go_wp2
          all_goals go_ret
          all_goals exact ⟨by rw [HF.out]; rfl, HB2.out.drew⟩
        | true =>
          have YS := hide (YES.out hxy)
          clear NO YES
          unfold intB at hxy
          simp only [decide_eq_true_eq] at hxy
          try subst hxy
          go_wp2
          go_region
          all_goals go_wp2
          go_roundw
          case rel => exact ⟨i + 1, by omega, by go_num, HB2.out.drew, step_all HA.out YS.out⟩
          case measure => simp [intOf]; omega
      · have hlt' : ¬ (i : Int) < (n : Int) := by omega
        have HF : Hid (q = true) := EQ.out.symm.trans (alike_all _ _ _ (EN.out.trans EM.out.symm) fun j k1 k2 => HA.out j k1 k2 (by have := EN.out; omega))
        go_wp2
        go_ret
        exact ⟨by rw [HF.out]; rfl, HB2.out⟩
  · have hn' : ¬ (xs.length : Int) = (ys.length : Int) := by omega
    have HF : Hid (q = false) := EQ.out.symm.trans (alike_len _ _ _ hn)
    obtain ⟨n, en⟩ : ∃ n, xs.length = n := ⟨_, rfl⟩
    obtain ⟨m, em⟩ : ∃ m, ys.length = m := ⟨_, rfl⟩
    rw [en, em] at hn'
    rw [en] at H1 ⊢
    rw [em] at H2 ⊢
    clear en em hn hl _hm
    go_enter Try.func12, Try.ntmps12
    go_wp2
    go_ret
    exact ⟨by rw [HF.out]; rfl, Below.refl _ _⟩


set_option maxRecDepth 100000 in
set_option maxHeartbeats 1000000 in
theorem equalS_any (v1 v2 : Value) (xs ys : List ByteArray) (w : World) (h1 : StrsAt w v1 xs) (h2 : StrsAt w v2 ys) (hl : xs.length ≤ 1048576) (_hm : ys.length ≤ 1048576) :
    Calls Try.prog 33 #[v1, v2] w fun e w' => e = .returned (.bool (alike strB xs ys)) ∧ Below w.heap.size w w' := by
  have H1 := hide h1
  have H2 := hide h2
  obtain ⟨ao, c, rfl, _⟩ := h1
  obtain ⟨bo, d, rfl, _⟩ := h2
  obtain ⟨q, eq⟩ : ∃ q, alike strB xs ys = q := ⟨_, rfl⟩
  have EQ := hide eq
  rw [eq]
  clear eq
  by_cases hn : xs.length = ys.length
  · obtain ⟨n, en⟩ : ∃ n, xs.length = n := ⟨_, rfl⟩
    have EN := hide en
    have EM := hide (hn.symm.trans en)
    rw [en] at H1 hl ⊢
    rw [hn.symm.trans en] at H2 ⊢
    clear hn en _hm
    go_enter Try.func33, Try.ntmps33
    go_wp2
    go_loopw [13] (AlkR strB w xs ys n) (fun iv _ => n - (intOf iv).toNat)
    case atStart => exact ⟨0, by omega, rfl, Below.refl _ _, fun j _ _ hj => absurd hj (Nat.not_lt_zero j)⟩
    case round =>
      obtain ⟨i, hi, rfl, HB2, HA⟩ := hrel
      by_cases hlt : i < n
      · have hlt' : (i : Int) < (n : Int) := by omega
        have hi0 : (0 : Int) ≤ (i : Int) := by omega
        have hix : i < xs.length := by rw [EN.out]; exact hlt
        have hiy : i < ys.length := by rw [EM.out]; exact hlt
        obtain ⟨ao', c', e1, hc1⟩ := H1.out.stays HB2.out
        injection e1 with e2 e3 e4
        subst e2
        obtain ⟨bo', d', e1, hc2⟩ := H2.out.stays HB2.out
        injection e1 with e2 e5 e6
        subst e2
        obtain ⟨a, rfl, _, hx⟩ := hc1 i hix
        obtain ⟨b, rfl, _, hy⟩ := hc2 i hiy
        have NO : Hid (strB xs[i] ys[i] = false → q = false) := fun h => EQ.out.symm.trans (alike_no _ _ _ _ hix hiy h)
        have YES0 : Hid (strB xs[i] ys[i] = true → ∀ (h1 : i < xs.length) (h2 : i < ys.length), strB xs[i] ys[i] = true) := fun h _ _ => h
        obtain ⟨x, ex⟩ : ∃ x, xs[i] = x := ⟨_, rfl⟩
        obtain ⟨y, ey⟩ : ∃ y, ys[i] = y := ⟨_, rfl⟩
        rw [ex] at hx NO
        rw [ey] at hy NO
        have YES : Hid (strB x y = true → ∀ (h1 : i < xs.length) (h2 : i < ys.length), strB xs[i] ys[i] = true) := fun h => YES0.out (by rw [ex, ey]; exact h)
        clear YES0 ex ey hc1 hc2 e3 e4 e5 e6 hix hiy

        cases hxy : strB x y with
        | false =>
          have HF : Hid (q = false) := NO.out hxy
          clear NO YES
          unfold strB at hxy
          go_wp2
          go_region
          all_goals go_wp2
          all_goals go_ret
          all_goals exact ⟨by rw [HF.out]; rfl, HB2.out.drew⟩
        | true =>
          have YS := hide (YES.out hxy)
          clear NO YES
          unfold strB at hxy
          go_wp2
          go_region
          all_goals go_wp2
          go_roundw
          case rel => exact ⟨i + 1, by omega, by go_num, HB2.out.drew, step_all HA.out YS.out⟩
          case measure => simp [intOf]; omega
      · have hlt' : ¬ (i : Int) < (n : Int) := by omega
        have HF : Hid (q = true) := EQ.out.symm.trans (alike_all _ _ _ (EN.out.trans EM.out.symm) fun j k1 k2 => HA.out j k1 k2 (by have := EN.out; omega))
        go_wp2
        go_ret
        exact ⟨by rw [HF.out]; rfl, HB2.out⟩
  · have hn' : ¬ (xs.length : Int) = (ys.length : Int) := by omega
    have HF : Hid (q = false) := EQ.out.symm.trans (alike_len _ _ _ hn)
    obtain ⟨n, en⟩ : ∃ n, xs.length = n := ⟨_, rfl⟩
    obtain ⟨m, em⟩ : ∃ m, ys.length = m := ⟨_, rfl⟩
    rw [en, em] at hn'
    rw [en] at H1 ⊢
    rw [em] at H2 ⊢
    clear en em hn hl _hm
    go_enter Try.func33, Try.ntmps33
    go_wp2
    go_ret
    exact ⟨by rw [HF.out]; rfl, Below.refl _ _⟩


set_option maxRecDepth 100000 in
set_option maxHeartbeats 1000000 in
theorem textsS_any (v1 v2 : Value) (xs ys : List ByteArray) (w : World) (h1 : StrsAt w v1 xs) (h2 : StrsAt w v2 ys) (hl : xs.length ≤ 1048576) (_hm : ys.length ≤ 1048576) :
    Calls Try.prog 13 #[v1, v2] w fun e w' => e = .returned (.bool (alike strB xs ys)) ∧ Below w.heap.size w w' := by
  have H1 := hide h1
  have H2 := hide h2
  obtain ⟨ao, c, rfl, _⟩ := h1
  obtain ⟨bo, d, rfl, _⟩ := h2
  obtain ⟨q, eq⟩ : ∃ q, alike strB xs ys = q := ⟨_, rfl⟩
  have EQ := hide eq
  rw [eq]
  clear eq
  by_cases hn : xs.length = ys.length
  · obtain ⟨n, en⟩ : ∃ n, xs.length = n := ⟨_, rfl⟩
    have EN := hide en
    have EM := hide (hn.symm.trans en)
    rw [en] at H1 hl ⊢
    rw [hn.symm.trans en] at H2 ⊢
    clear hn en _hm
    go_enter Try.func13, Try.ntmps13
    go_wp2
    go_loopw [5] (AlkR strB w xs ys n) (fun iv _ => n - (intOf iv).toNat)
    case atStart => exact ⟨0, by omega, rfl, Below.refl _ _, fun j _ _ hj => absurd hj (Nat.not_lt_zero j)⟩
    case round =>
      obtain ⟨i, hi, rfl, HB2, HA⟩ := hrel
      by_cases hlt : i < n
      · have hlt' : (i : Int) < (n : Int) := by omega
        have hi0 : (0 : Int) ≤ (i : Int) := by omega
        have hix : i < xs.length := by rw [EN.out]; exact hlt
        have hiy : i < ys.length := by rw [EM.out]; exact hlt
        obtain ⟨ao', c', e1, hc1⟩ := H1.out.stays HB2.out
        injection e1 with e2 e3 e4
        subst e2
        obtain ⟨bo', d', e1, hc2⟩ := H2.out.stays HB2.out
        injection e1 with e2 e5 e6
        subst e2
        obtain ⟨a, rfl, _, hx⟩ := hc1 i hix
        obtain ⟨b, rfl, _, hy⟩ := hc2 i hiy
        have NO : Hid (strB xs[i] ys[i] = false → q = false) := fun h => EQ.out.symm.trans (alike_no _ _ _ _ hix hiy h)
        have YES0 : Hid (strB xs[i] ys[i] = true → ∀ (h1 : i < xs.length) (h2 : i < ys.length), strB xs[i] ys[i] = true) := fun h _ _ => h
        obtain ⟨x, ex⟩ : ∃ x, xs[i] = x := ⟨_, rfl⟩
        obtain ⟨y, ey⟩ : ∃ y, ys[i] = y := ⟨_, rfl⟩
        rw [ex] at hx NO
        rw [ey] at hy NO
        have YES : Hid (strB x y = true → ∀ (h1 : i < xs.length) (h2 : i < ys.length), strB xs[i] ys[i] = true) := fun h => YES0.out (by rw [ex, ey]; exact h)
        clear YES0 ex ey hc1 hc2 e3 e4 e5 e6 hix hiy

        cases hxy : strB x y with
        | false =>
          have HF : Hid (q = false) := NO.out hxy
          clear NO YES
          unfold strB at hxy
          go_wp2
          go_region
          all_goals go_wp2
          all_goals go_ret
          all_goals exact ⟨by rw [HF.out]; rfl, HB2.out.drew⟩
        | true =>
          have YS := hide (YES.out hxy)
          clear NO YES
          unfold strB at hxy
          go_wp2
          go_region
          all_goals go_wp2
          go_roundw
          case rel => exact ⟨i + 1, by omega, by go_num, HB2.out.drew, step_all HA.out YS.out⟩
          case measure => simp [intOf]; omega
      · have hlt' : ¬ (i : Int) < (n : Int) := by omega
        have HF : Hid (q = true) := EQ.out.symm.trans (alike_all _ _ _ (EN.out.trans EM.out.symm) fun j k1 k2 => HA.out j k1 k2 (by have := EN.out; omega))
        go_wp2
        go_ret
        exact ⟨by rw [HF.out]; rfl, HB2.out⟩
  · have hn' : ¬ (xs.length : Int) = (ys.length : Int) := by omega
    have HF : Hid (q = false) := EQ.out.symm.trans (alike_len _ _ _ hn)
    obtain ⟨n, en⟩ : ∃ n, xs.length = n := ⟨_, rfl⟩
    obtain ⟨m, em⟩ : ∃ m, ys.length = m := ⟨_, rfl⟩
    rw [en, em] at hn'
    rw [en] at H1 ⊢
    rw [em] at H2 ⊢
    clear en em hn hl _hm
    go_enter Try.func13, Try.ntmps13
    go_wp2
    go_ret
    exact ⟨by rw [HF.out]; rfl, Below.refl _ _⟩


set_option maxRecDepth 100000 in
set_option maxHeartbeats 1000000 in
theorem equalE_any (v1 v2 : Value) (xs ys : List En) (w : World) (h1 : EnsAt w v1 xs) (h2 : EnsAt w v2 ys) (hl : xs.length ≤ 1048576) (_hm : ys.length ≤ 1048576) :
    Calls Try.prog 34 #[v1, v2] w fun e w' => e = .returned (.bool (alike enB xs ys)) ∧ Below w.heap.size w w' := by
  have H1 := hide h1
  have H2 := hide h2
  obtain ⟨ao, c, rfl, _⟩ := h1
  obtain ⟨bo, d, rfl, _⟩ := h2
  obtain ⟨q, eq⟩ : ∃ q, alike enB xs ys = q := ⟨_, rfl⟩
  have EQ := hide eq
  rw [eq]
  clear eq
  by_cases hn : xs.length = ys.length
  · obtain ⟨n, en⟩ : ∃ n, xs.length = n := ⟨_, rfl⟩
    have EN := hide en
    have EM := hide (hn.symm.trans en)
    rw [en] at H1 hl ⊢
    rw [hn.symm.trans en] at H2 ⊢
    clear hn en _hm
    go_enter Try.func34, Try.ntmps34
    go_wp2
    go_loopw [13] (AlkR enB w xs ys n) (fun iv _ => n - (intOf iv).toNat)
    case atStart => exact ⟨0, by omega, rfl, Below.refl _ _, fun j _ _ hj => absurd hj (Nat.not_lt_zero j)⟩
    case round =>
      obtain ⟨i, hi, rfl, HB2, HA⟩ := hrel
      by_cases hlt : i < n
      · have hlt' : (i : Int) < (n : Int) := by omega
        have hi0 : (0 : Int) ≤ (i : Int) := by omega
        have hix : i < xs.length := by rw [EN.out]; exact hlt
        have hiy : i < ys.length := by rw [EM.out]; exact hlt
        obtain ⟨ao', c', e1, hc1⟩ := H1.out.stays HB2.out
        injection e1 with e2 e3 e4
        subst e2
        obtain ⟨bo', d', e1, hc2⟩ := H2.out.stays HB2.out
        injection e1 with e2 e5 e6
        subst e2
        obtain ⟨a, rfl, _, hx⟩ := hc1 i hix
        obtain ⟨b, rfl, _, hy⟩ := hc2 i hiy
        have NO : Hid (enB xs[i] ys[i] = false → q = false) := fun h => EQ.out.symm.trans (alike_no _ _ _ _ hix hiy h)
        have YES0 : Hid (enB xs[i] ys[i] = true → ∀ (h1 : i < xs.length) (h2 : i < ys.length), enB xs[i] ys[i] = true) := fun h _ _ => h
        obtain ⟨x, ex⟩ : ∃ x, xs[i] = x := ⟨_, rfl⟩
        obtain ⟨y, ey⟩ : ∃ y, ys[i] = y := ⟨_, rfl⟩
        rw [ex] at hx NO
        rw [ey] at hy NO
        have YES : Hid (enB x y = true → ∀ (h1 : i < xs.length) (h2 : i < ys.length), enB xs[i] ys[i] = true) := fun h => YES0.out (by rw [ex, ey]; exact h)
        clear YES0 ex ey hc1 hc2 e3 e4 e5 e6 hix hiy
        obtain ⟨x0, x1, x2⟩ := x
        obtain ⟨y0, y1, y2⟩ := y
        obtain ⟨p0, p1, p2⟩ := hx
        obtain ⟨q0, q1, q2⟩ := hy
        dsimp only at p0 p1 p2 q0 q1 q2
        cases hxy : enB ⟨x0, x1, x2⟩ ⟨y0, y1, y2⟩ with
        | false =>
          have HF : Hid (q = false) := NO.out hxy
          clear NO YES
          have RN := fun w => run_neq_entry w x0 x1 y0 y1 x2 y2
          rw [hxy] at RN
          go_wp2
          go_region
          all_goals go_wp2
          all_goals go_ret
          all_goals exact ⟨by rw [HF.out]; rfl, HB2.out.drew⟩
        | true =>
          have YS := hide (YES.out hxy)
          clear NO YES
          have RN := fun w => run_neq_entry w x0 x1 y0 y1 x2 y2
          rw [hxy] at RN
          go_wp2
          go_region
          all_goals go_wp2
          go_roundw
          case rel => exact ⟨i + 1, by omega, by go_num, HB2.out.drew, step_all HA.out YS.out⟩
          case measure => simp [intOf]; omega
      · have hlt' : ¬ (i : Int) < (n : Int) := by omega
        have HF : Hid (q = true) := EQ.out.symm.trans (alike_all _ _ _ (EN.out.trans EM.out.symm) fun j k1 k2 => HA.out j k1 k2 (by have := EN.out; omega))
        go_wp2
        go_ret
        exact ⟨by rw [HF.out]; rfl, HB2.out⟩
  · have hn' : ¬ (xs.length : Int) = (ys.length : Int) := by omega
    have HF : Hid (q = false) := EQ.out.symm.trans (alike_len _ _ _ hn)
    obtain ⟨n, en⟩ : ∃ n, xs.length = n := ⟨_, rfl⟩
    obtain ⟨m, em⟩ : ∃ m, ys.length = m := ⟨_, rfl⟩
    rw [en, em] at hn'
    rw [en] at H1 ⊢
    rw [em] at H2 ⊢
    clear en em hn hl _hm
    go_enter Try.func34, Try.ntmps34
    go_wp2
    go_ret
    exact ⟨by rw [HF.out]; rfl, Below.refl _ _⟩

end Go.Proofs.Ytnkdichgdnghcaa
