/-
  What is put in a drawn Env is got; all else stays: as functions.
-/
import Derived.Test.YtmckcbgdkjbpfaaDrwG
import Derived.Test.YtmckcbgdkjbpfaaEnvK
namespace Go.Proofs.Ytmckcbgdkjbpfaa
open Go.RowKit

theorem nodup_at {xs : List ByteArray} (h : xs.Nodup) {i j : Nat} (hi : i < xs.length) (hj : j < xs.length) (e : xs[i] = xs[j]) : i = j := by
  rcases Nat.lt_trichotomy i j with h1 | h1 | h1
  · exact absurd e (List.pairwise_iff_getElem.1 h i j hi hj h1)
  · exact h1
  · exact absurd e.symm (List.pairwise_iff_getElem.1 h j i hj hi h1)
theorem nm5_nodup : nm5.Nodup := by decide
theorem nm5_ok : ∀ y ∈ nm5, nameB y = true := by decide +kernel
theorem vl6_ok : ∀ u ∈ vl6, vok u = true := by decide
theorem Dr5.len {x : Ev} {k : Nat} (h : Dr5 x k) : x.names.length = k := by
  rw [h.n, List.length_take]
  show min k 5 = k
  have := h.le
  omega
theorem Dr5.nodup {x : Ev} {k : Nat} (h : Dr5 x k) : x.names.Nodup := by
  rw [h.n]
  exact nm5_nodup.sublist (List.take_sublist _ _)
theorem at_nodup {x : Ev} (hn : x.names.Nodup) (hl : x.names.length = x.vals.length) {i : Nat} (hi : i < x.names.length) : atE x x.names[i] = (i : Int) := by
  unfold atE
  have e : x.names.take x.vals.length = x.names := by rw [← hl, List.take_length]
  rw [e]
  refine first_hit hi (fun j hj hji => decide_eq_false fun h => ?_) (decide_eq_true rfl)
  have := nodup_at hn hj hi h
  omega
/-- What is got of what was put. -/
theorem get_put {x : Ev} (hn : x.names.Nodup) (hl : x.names.length = x.vals.length) {i j : Nat} (hi : i < x.names.length) (hj : j < x.names.length) {u : Int} (hu : vok u = true) :
    getE (putE x x.names[j] u) x.names[i] = if x.names[i] = x.names[j] then u else x.vals[i]'(by omega) := by
  have ha := at_nodup hn hl hj
  have hp : putE x x.names[j] u = { x with vals := x.vals.set j u } := by
    unfold putE
    rw [ha, if_pos ⟨hu, by omega⟩, Int.toNat_natCast]
  rw [hp]
  have hb : atE { x with vals := x.vals.set j u } x.names[i] = (i : Int) := at_nodup (x := { x with vals := x.vals.set j u }) hn (by show x.names.length = (x.vals.set j u).length; rw [List.length_set]; exact hl) hi
  unfold getE
  rw [hb, if_pos (by omega), Int.toNat_natCast]
  show (x.vals.set j u).getD i 0 = _
  rw [List.getD_eq_getElem?_getD, List.getElem?_eq_getElem (by rw [List.length_set]; omega), Option.getD_some, List.getElem_set]
  by_cases h : j = i
  · subst h
    rw [if_pos rfl, if_pos rfl]
  · rw [if_neg h, if_neg fun e => h (nodup_at hn hi hj e).symm]
theorem ok_of {x : Ev} (hl : x.names.length = x.vals.length) (h8 : x.names.length ≤ 8) (hn : x.names.Nodup) (ho : ∀ y ∈ x.names, nameB y = true) (hv : ∀ u ∈ x.vals, vok u = true) : envOkB x = true := by
  unfold envOkB
  rw [decide_eq_true hl, decide_eq_true h8, Bool.true_and, Bool.true_and]
  refine List.all_eq_true.2 fun i hi => ?_
  have hi' := List.mem_range.1 hi
  rw [List.getD_eq_getElem?_getD, List.getElem?_eq_getElem hi', List.getD_eq_getElem?_getD, List.getElem?_eq_getElem (by omega), Option.getD_some, Option.getD_some, ho _ (List.getElem_mem hi'), hv _ (List.getElem_mem _)]
  have : memB (x.names.take i) x.names[i] = false := memB_no.2 fun h => by
    obtain ⟨j, hj, e⟩ := List.mem_take_iff_getElem.1 h
    have := nodup_at hn (by omega) hi' e
    omega
  rw [this]
  rfl
theorem Dr5.ok {x : Ev} {k : Nat} (h : Dr5 x k) : envOkB x = true := by
  have hle := h.le
  refine ok_of (by rw [h.len, h.v]) (by rw [h.len]; omega) h.nodup (fun y hy => ?_) fun u hu => vl6_ok u (h.m u hu)
  rw [h.n] at hy
  exact nm5_ok y (List.mem_of_mem_take hy)
theorem Dr5.ok_put {x : Ev} {k : Nat} (h : Dr5 x k) (s : ByteArray) {u : Int} (hu : vok u = true) : envOkB (putE x s u) = true := by
  have hle := h.le
  unfold putE
  split
  · refine ok_of (by show x.names.length = (x.vals.set _ u).length; rw [List.length_set, h.len, h.v]) (by show x.names.length ≤ 8; rw [h.len]; omega) h.nodup (fun y hy => ?_) fun v hv => ?_
    · have hy' : y ∈ x.names := hy
      rw [h.n] at hy'
      exact nm5_ok y (List.mem_of_mem_take hy')
    · rcases List.mem_or_eq_of_mem_set hv with h1 | h1
      · exact vl6_ok v (h.m v h1)
      · rw [h1]; exact hu
  · exact h.ok
theorem Dr5.none {x : Ev} {k : Nat} (h : Dr5 x k) : getE x ⟨#[110, 111, 110, 101]⟩ = 0 := by
  have : atE x ⟨#[110, 111, 110, 101]⟩ = -1 := by
    unfold atE
    refine first_none fun j hj => decide_eq_false fun e => ?_
    have hm : (⟨#[110, 111, 110, 101]⟩ : ByteArray) ∈ x.names := by
      have h9 := List.mem_of_mem_take (List.getElem_mem hj)
      rw [e] at h9
      exact h9
    rw [h.n] at hm
    have h5 := List.mem_of_mem_take hm
    exact (by decide : ∀ y ∈ nm5, y ≠ (⟨#[110, 111, 110, 101]⟩ : ByteArray)) _ h5 rfl
  unfold getE
  rw [this, if_neg (by omega)]
theorem Sm6.sz {x : Ev} (h : Sm6 x) : szEv x ≤ 1000 := by
  have h2 : ∀ l : List ByteArray, (∀ y ∈ l, y.size ≤ 6) → (l.map ByteArray.size).sum ≤ l.length * 6 := by
    intro l
    induction l with
    | nil => intro _; simp
    | cons a l ih =>
      intro hl
      have h3 := ih fun y hy => hl y (List.mem_cons_of_mem _ hy)
      have h4 := hl a (List.mem_cons_self ..)
      simp
      omega
  have h3 := h2 x.names h.s
  have hn := h.n
  have hv := h.v
  unfold szEv szStrs
  omega
end Go.Proofs.Ytmckcbgdkjbpfaa
