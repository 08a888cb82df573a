/-
  An Env that comes in; the specification's contracts as the laws' walks ask for them.
-/
import Derived.Test.YtmckcbgdkjbpfaaEnvK
import Derived.Test.YtmckcbgdkjbpfaaEnvU
import Derived.Test.YtmckcbgdkjbpfaaCloW
namespace Go.Proofs.Ytmckcbgdkjbpfaa
open Go.RowKit
open Go.ChangeShapes Go.WideShapes Go.ChangeAt Go.Deep

set_option maxRecDepth 100000 in
theorem ev_of {H : Type} {enc : TypeId × Value → H} {W : World} {base : Nat} {v : Value} {d : DataW H} {ps : List MemPlace}
    (ho : Value.okWide Try.prog W .any base 25 v) (h : DataW.Trod enc Try.prog W 0 (fun _ => true) true 25 v d ps) : ∃ v0 v1 x, v = .agg #[v0, v1] ∧ EvAt W v0 v1 x ∧ EvMax x := by
  obtain ⟨cs, rfl, _⟩ := okWide_struct Try.underlying25 ho
  obtain ⟨fuel, hf⟩ := h
  obtain ⟨v0, v1, x, e, h1⟩ := opens_Ev _ _ _ hf
  have e2 : cs = #[v0, v1] := by
    have : cs.toList = [v0, v1] := e
    rw [← Array.toList_inj]
    exact this
  subst e2
  exact ⟨v0, v1, x, rfl, h1⟩
theorem szStrs_mem {xs : List ByteArray} {y : ByteArray} (h : y ∈ xs) : y.size ≤ szStrs xs := by
  unfold szStrs
  have h2 : ∀ l : List ByteArray, y ∈ l → y.size ≤ (l.map ByteArray.size).sum := fun l => by
    induction l with
    | nil => intro h; cases h
    | cons a l ih =>
      intro h
      rcases List.mem_cons.1 h with rfl | h
      · simp
      · have := ih h
        simp
        omega
  have := h2 _ h
  omega
theorem spEnvOk (x0 : Ev) (hl : szEv x0 ≤ 1048576) (v0 v1 : Value) (z : World) (b0 : Nat) (h : EvC b0 z [v0, v1] x0) : Calls Try.prog 23 #[.agg #[v0, v1]] z fun e w' => e = .returned (.bool (envOkB x0)) ∧ Below z.heap.size z w' :=
  specEnvOk_any v0 v1 x0 b0 z h (szEv_len hl) fun y hy => by
    have := szStrs_mem hy
    unfold szEv at hl
    omega
theorem spPutIn (x0 : Ev) (s1 : ByteArray) (n2 : Int) (hl : szEv x0 ≤ 1048576) (_ : s1.size ≤ 1048576) (v0 v1 : Value) (z : World) (b0 : Nat) (h : EvC b0 z [v0, v1] x0) : Calls Try.prog 6 #[.agg #[v0, v1], .string s1, .int .i64 n2] z fun e w' => ∃ r0 r1, e = .returned (.agg #[r0, r1]) ∧ EvOwn z.heap.size w' r0 r1 (putE x0 s1 n2) ∧ Below z.heap.size z w' :=
  specPutIn_any v0 v1 x0 s1 n2 z h.at (szEv_len hl)
theorem spTogether (x0 x1 : Ev) (hl : szEv x0 + szEv x1 ≤ 1048576) (v0 v1 u0 u1 : Value) (z : World) (b0 b1 : Nat) (h : EvC b0 z [v0, v1] x0) (k : EvC b1 z [u0, u1] x1) : Calls Try.prog 22 #[.agg #[v0, v1], .agg #[u0, u1]] z fun e w' => ∃ r0 r1, e = .returned (.agg #[r0, r1]) ∧ EvOwn z.heap.size w' r0 r1 (togE x0 x1) ∧ Below z.heap.size z w' :=
  specTogether_any v0 v1 u0 u1 x0 x1 z h.at k.at hl
end Go.Proofs.Ytmckcbgdkjbpfaa

namespace Go.Proofs.Ytmckcbgdkjbpfaa
open Go.RowKit

theorem first_take {α : Type} (f : α → Bool) (xs : List α) (m : Nat) : firstAt f (xs.take m) = if 0 ≤ firstAt f xs ∧ firstAt f xs < (m : Int) then firstAt f xs else -1 := by
  cases e : xs.findIdx? f with
  | none =>
    have e1 : firstAt f xs = -1 := by rw [firstAt, e]
    rw [e1, if_neg (by omega)]
    exact first_none fun j hj => by
      rw [List.getElem_take]
      have := List.findIdx?_eq_none_iff.1 e (xs[j]'(by rw [List.length_take] at hj; omega)) (List.getElem_mem _)
      simpa using this
  | some i =>
    have e1 : firstAt f xs = (i : Int) := by rw [firstAt, e]
    obtain ⟨hi, hx, hn⟩ := List.findIdx?_eq_some_iff_getElem.1 e
    rw [e1]
    by_cases hm : i < m
    · rw [if_pos ⟨by omega, by omega⟩]
      refine first_hit (by rw [List.length_take]; omega) (fun j hj hji => ?_) (by rw [List.getElem_take]; exact hx)
      rw [List.getElem_take]
      have := hn j hji
      simpa using this
    · rw [if_neg (by omega)]
      refine first_none fun j hj => ?_
      rw [List.length_take] at hj
      rw [List.getElem_take]
      have := hn j (by omega)
      simpa using this
theorem atE_eq (x : Ev) (s : ByteArray) : atE x s = if 0 ≤ firstAt (eqS s) x.names ∧ firstAt (eqS s) x.names < (x.vals.length : Int) then firstAt (eqS s) x.names else -1 := first_take _ _ _

set_option maxRecDepth 100000 in
set_option maxHeartbeats 1000000 in
theorem placeOf_any (v0 v1 : Value) (x : Ev) (s : ByteArray) (w : World) (h : EvAt w v0 v1 x) (hl : EvLen x) :
    Calls Try.prog 42 #[.agg #[v0, v1], .string s] w fun e w' => e = .returned (.tuple #[.int .i64 (firstAt (eqS s) x.names), .bool (decide (0 ≤ firstAt (eqS s) x.names) && decide (firstAt (eqS s) x.names < (x.vals.length : Int)))]) ∧ Below w.heap.size w w' := by
  have L0 := hl.l0
  have L1 := hl.l1
  have hb1 : Below w.heap.size w (w.alloc (.cells #[v0, v1] 27)) := (Below.refl _ _).alloc (Nat.le_refl _) _
  have HA := hide (h.stays hb1)
  have CI := fun z h => hide (indexS_any v0 x.names s z h L0)
  have HLE := hide (first_le (eqS s) x.names)
  obtain ⟨o0, c0, rfl, _⟩ := h.a0
  obtain ⟨o1, c1, rfl, _⟩ := h.a1
  clear h hl
  obtain ⟨k, ek⟩ : ∃ k, firstAt (eqS s) x.names = k := ⟨_, rfl⟩
  simp only [ek] at CI ⊢
  rw [ek] at HLE
  clear ek
  obtain ⟨n, en⟩ : ∃ n, x.names.length = n := ⟨_, rfl⟩
  obtain ⟨m, em⟩ : ∃ m, x.vals.length = m := ⟨_, rfl⟩
  rw [en] at HLE L0
  rw [em] at L1 ⊢
  simp only [en, em] at CI HA hb1 ⊢
  clear en em
  have HB := hide hb1
  clear hb1
  by_cases hk : 0 ≤ k
  · go_enter Try.func42, Try.ntmps42
    go_wp2_with (go_at_call 61; refine (unhide (CI _ HA.out.a0)).mono ?_; rintro e w1 ⟨rfl, rfl⟩)
    go_quiet (fail)
    go_wp2
    go_returns
    exact ⟨by simp [hk], below_drewN HB.out _⟩
  · obtain rfl : k = -1 := by have := HLE.out; omega
    clear hk HLE
    go_enter Try.func42, Try.ntmps42
    go_wp2_with (go_at_call 61; refine (unhide (CI _ HA.out.a0)).mono ?_; rintro e w1 ⟨rfl, rfl⟩)
    go_quiet (fail)
    go_wp2
    go_returns
    exact ⟨by simp, below_drewN HB.out _⟩

set_option maxRecDepth 100000 in
set_option maxHeartbeats 1000000 in
theorem implGetIn_any (v0 v1 : Value) (x : Ev) (s : ByteArray) (w : World) (h : EvAt w v0 v1 x) (hl : EvLen x) :
    Calls Try.prog 15 #[.agg #[v0, v1], .string s] w fun e w' => e = .returned (.int .i64 (getE x s)) ∧ Below w.heap.size w w' := by
  have L0 := hl.l0
  have L1 := hl.l1
  have hb1 : Below w.heap.size w (w.alloc (.cells #[v0, v1] 27)) := (Below.refl _ _).alloc (Nat.le_refl _) _
  have HAW := hide h
  have CP := fun z h => hide (placeOf_any v0 v1 x s z h hl)
  have BX := hide (Box.made w #[v0, v1] 27)
  have HG : Hid (getE x s = if 0 ≤ firstAt (eqS s) x.names ∧ firstAt (eqS s) x.names < (x.vals.length : Int) then x.vals.getD (firstAt (eqS s) x.names).toNat 0 else 0) := by
    show _ = _
    rw [getE, atE_eq]
    by_cases hq : 0 ≤ firstAt (eqS s) x.names ∧ firstAt (eqS s) x.names < (x.vals.length : Int)
    · rw [if_pos hq, if_pos hq, if_pos hq.1]
    · rw [if_neg hq, if_neg hq, if_neg (by omega)]
  obtain ⟨o0, c0, rfl, _⟩ := h.a0
  obtain ⟨o1, c1, rfl, _⟩ := h.a1
  clear h hl
  obtain ⟨g, eg⟩ : ∃ g, getE x s = g := ⟨_, rfl⟩
  rw [eg] at HG ⊢
  clear eg
  obtain ⟨k, ek⟩ : ∃ k, firstAt (eqS s) x.names = k := ⟨_, rfl⟩
  simp only [ek] at CP
  rw [ek] at HG
  clear ek
  have HB := hide hb1
  have HA1 := hide (HAW.out.stays hb1)
  clear hb1
  by_cases hq : 0 ≤ k ∧ k < (x.vals.length : Int)
  · have eb : (decide (0 ≤ k) && decide (k < (x.vals.length : Int))) = true := by rw [decide_eq_true hq.1, decide_eq_true hq.2]; rfl
    simp only [eb] at CP
    have HGV : Hid (∃ i : Nat, k = (i : Int) ∧ ∃ hi : i < x.vals.length, g = x.vals[i]) := ⟨k.toNat, by omega, by omega, by
      rw [HG.out, if_pos hq, List.getD_eq_getElem?_getD, List.getElem?_eq_getElem (by omega)]
      rfl⟩
    obtain ⟨i, rfl, hi, rfl⟩ := HGV.out
    clear HG HGV eb
    have hi1 := hq.1
    have hi2 := hq.2
    go_enter Try.func15, Try.ntmps15
    have q0 := Lib.cell_of_heap BX.out 0
    have q1 := Lib.cell_of_heap BX.out 1
    simp at q0 q1
    go_wp2_with (go_at_call 42; refine (unhide (CP _ HA1.out)).mono ?_; rintro e w1 ⟨rfl, hb⟩; have HB1 := hide hb; have BX1 := hide (BX.out.stays hb); clear hb q0 q1; have r1 := Lib.cell_of_heap BX1.out 1; simp at r1; have HA2 := hide (HA1.out.stays HB1.out); obtain ⟨bo', d', e1, hc2⟩ := HA2.out.a1; injection e1 with e2 e5 e6; subst e2; obtain ⟨b, rfl, _, hy⟩ := hc2 i hi; clear hc2 e5 e6)
    go_ret
    exact ⟨rfl, HB.out.trans (HB1.out.mono HB.out.size)⟩
  · have eb : (decide (0 ≤ k) && decide (k < (x.vals.length : Int))) = false := by
      rw [Bool.eq_false_iff]
      intro h
      rw [Bool.and_eq_true, decide_eq_true_eq, decide_eq_true_eq] at h
      exact hq h
    simp only [eb] at CP
    have eg : g = 0 := by rw [HG.out, if_neg hq]
    subst eg
    clear HG eb
    go_enter Try.func15, Try.ntmps15
    have q0 := Lib.cell_of_heap BX.out 0
    have q1 := Lib.cell_of_heap BX.out 1
    simp at q0 q1
    go_wp2_with (go_at_call 42; refine (unhide (CP _ HA1.out)).mono ?_; rintro e w1 ⟨rfl, hb⟩; have HB1 := hide hb; clear hb)
    go_ret
    exact ⟨rfl, HB.out.trans (HB1.out.mono HB.out.size)⟩
end Go.Proofs.Ytmckcbgdkjbpfaa
