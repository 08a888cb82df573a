/-
  Rows of numbers that are owned.
-/
import Derived.Test.YthlbboppdmdceaaAid
import Derived.Test.YthlbboppdmdceaaChecked
import Derived.BigQuiet
import Derived.WalkSmall
import Derived.Test.YthlbboppdmdceaaTreeN
namespace Go.Proofs.Ythlbboppdmdceaa
open Go.RowKit

abbrev I64 (x : Int) : Value := .int .i64 x
theorem Try.infoInt : (Try.prog.info? 3).map (fun i => (i.zero, i.size, i.bytes)) = some (some (.int .i64 0), 1, 8) := by kernel_rfl
theorem ownsInts_stays {w w' : World} {base : Nat} {e : TypeId} {size : Nat} {v : Value} {n : Nat} {xs : List Value} (h : w.ownsRow base e size v n xs) (hb : Below w.heap.size w w') : w'.ownsRow base e size v n xs := by
  have hlt := fun k hk => (h.lt k hk).2
  obtain ⟨h1, h2⟩ := h
  refine ⟨h1, ?_⟩
  rcases h2 with h2 | ⟨g, cap, cur, rfl, hb1, hg, r⟩
  · exact .inl h2
  · exact .inr ⟨g, cap, cur, rfl, hb1, by rw [hb.block g (hlt g rfl)]; exact hg, r⟩
/-- An owned row of numbers that is not empty: its block and cells. -/
theorem ownsInts_form {w : World} {base : Nat} {e : TypeId} {v : Value} {n : Nat} {xs : List Int} (h : w.ownsRow base e 1 v n (xs.map I64)) (hn : 0 < n) :
    ∃ g cap, v = .slice (some ⟨g, 0, none⟩) n cap ∧ base ≤ g ∧ g < w.heap.size ∧ ∀ j, j < n → w.cell? ⟨g, j, none⟩ = some (.int .i64 (xs.getD j 0)) := by
  have hl : xs.length = n := by simpa using h.1
  rcases h.2 with h2 | ⟨g, cap, cur, rfl, hb1, hg, _⟩
  · omega
  · refine ⟨g, cap, rfl, hb1, (h.lt g rfl).2, fun j hj => ?_⟩
    rw [h.cellAt j (by omega), List.getElem?_map, List.getD_eq_getElem?_getD, List.getElem?_eq_getElem (by omega)]
    rfl
end Go.Proofs.Ythlbboppdmdceaa

namespace Go.Proofs.Ythlbboppdmdceaa
open Go.RowKit

def kidDeep (out : List Int) (d x : Int) : Int := if d < out.getD x.toNat 0 + 1 then out.getD x.toNat 0 + 1 else d
def kidsDeep (ns : List Nd) (out : List Int) (k : Nat) : Int := if nodeB (ns.getD k default) (kinds ns k) then (ns.getD k default).kids.foldl (kidDeep out) 1 else 0
def cutDeep (out : List Int) (k : Nat) (d : Int) : Int := if 10 < d ∨ (0 < k ∧ out.getD (k - 1) 0 = 0) then 0 else d
/-- How deep the first k nodes are. -/
def deepsTo (ns : List Nd) : Nat → List Int
  | 0 => []
  | k + 1 => deepsTo ns k ++ [cutDeep (deepsTo ns k) k (kidsDeep ns (deepsTo ns k) k)]

def Deeps (l : List Int) : Prop := ∀ i, 0 ≤ l.getD i 0 ∧ l.getD i 0 ≤ 10
theorem deepsTo_len (ns : List Nd) : ∀ k, (deepsTo ns k).length = k
  | 0 => rfl
  | k + 1 => by simp [deepsTo, deepsTo_len ns k]
theorem kidDeep_in {out : List Int} (h : Deeps out) {d : Int} (hd : 1 ≤ d ∧ d ≤ 11) (x : Int) : 1 ≤ kidDeep out d x ∧ kidDeep out d x ≤ 11 := by
  have := h x.toNat
  unfold kidDeep
  split <;> omega
theorem foldDeep_in {out : List Int} (h : Deeps out) : ∀ (l : List Int) (d : Int), 1 ≤ d ∧ d ≤ 11 → 1 ≤ l.foldl (kidDeep out) d ∧ l.foldl (kidDeep out) d ≤ 11
  | [], _, hd => hd
  | x :: l, _, hd => foldDeep_in h l _ (kidDeep_in h hd x)
theorem kidsDeep_in {ns : List Nd} {out : List Int} (h : Deeps out) (k : Nat) : 0 ≤ kidsDeep ns out k ∧ kidsDeep ns out k ≤ 11 := by
  unfold kidsDeep
  split
  · have := foldDeep_in h (ns.getD k default).kids 1 (by omega)
    omega
  · omega
theorem deepsTo_in (ns : List Nd) : ∀ k, Deeps (deepsTo ns k)
  | 0 => fun i => by simp [deepsTo]
  | k + 1 => fun i => by
    have h := deepsTo_in ns k
    have hk := kidsDeep_in (ns := ns) h k
    rcases Nat.lt_trichotomy i k with hi | hi | hi
    · have e : (deepsTo ns (k + 1)).getD i 0 = (deepsTo ns k).getD i 0 := by
        simp [deepsTo, List.getD_eq_getElem?_getD, List.getElem?_append_left (show i < (deepsTo ns k).length by rw [deepsTo_len]; exact hi)]
      rw [e]; exact h i
    · have e : (deepsTo ns (k + 1)).getD i 0 = cutDeep (deepsTo ns k) k (kidsDeep ns (deepsTo ns k) k) := by
        subst hi
        simp [deepsTo, List.getD_eq_getElem?_getD, deepsTo_len]
      rw [e, cutDeep]
      split <;> omega
    · have e : (deepsTo ns (k + 1)).getD i 0 = 0 := by
        rw [List.getD_eq_getElem?_getD, List.getElem?_eq_none (by rw [deepsTo_len]; omega)]
        rfl
      rw [e]; omega

/-- The kids of a right node lie ahead. -/
theorem kidsB_ahead {kd : Int} {l : List Int} (h : kidsB kd l = true) : ∀ y ∈ l, y ≠ 0 := by
  intro y hy
  have hv : ∀ x : Int, valueQ x = true → x ≠ 0 := fun x hx => by have := inZ_yes.1 hx; omega
  have hs : ∀ x : Int, stmtQ x = true → x ≠ 0 := fun x hx => by have := inZ_yes.1 hx; omega
  have hb : ∀ x : Int, blockQ x = true → x ≠ 0 := fun x hx => by simp [blockQ] at hx; omega
  have two : ∀ {q r : Int → Bool} {n : Nat}, (l.take n).all q = true → (l.drop n).all r = true → q y = true ∨ r y = true := by
    intro q r n h1 h2
    rw [← List.take_append_drop n l, List.mem_append] at hy
    rcases hy with hy | hy
    · exact .inl (List.all_eq_true.1 h1 y hy)
    · exact .inr (List.all_eq_true.1 h2 y hy)
  have full : ∀ {q : Int → Bool} {n : Nat}, l.length = n → (l.take n).all q = true → q y = true := by
    intro q n h1 h2
    rw [List.take_of_length_le (by omega)] at h2
    exact List.all_eq_true.1 h2 y hy
  unfold kidsB at h
  split at h
  · rw [decide_eq_true_eq, List.length_eq_zero_iff] at h
    subst h
    simp at hy
  split at h
  · rw [Bool.and_eq_true, decide_eq_true_eq] at h
    exact hv y (full h.1 h.2)
  split at h
  · rw [Bool.and_eq_true, decide_eq_true_eq] at h
    exact hv y (full h.1 h.2)
  split at h
  · rw [Bool.and_eq_true, Bool.and_eq_true] at h
    rcases two h.1.2 h.2 with h | h
    · exact hv y h
    · exact hb y h
  split at h
  · rw [Bool.and_eq_true, Bool.and_eq_true] at h
    rcases two h.1.2 h.2 with h | h
    · exact hv y h
    · exact hb y h
  · rw [Bool.and_eq_true] at h
    exact hs y (List.all_eq_true.1 h.1 y hy)
theorem nodeB_kids {x : Nd} {l : List Int} (h : nodeB x l = true) : kidsB x.kind l = true := by
  simp only [nodeB, Bool.and_eq_true] at h
  exact h.1.1.1.2
theorem nodeB_ahead {ns : List Nd} {k : Nat} (hk : k < ns.length) (h : nodeB ns[k] (kinds ns k) = true) (i : Nat) (hi : i < ns[k].kids.length) : 0 ≤ ns[k].kids[i] ∧ ns[k].kids[i] < (k : Int) := by
  have h1 := kidsB_ahead (nodeB_kids h) _ (List.mem_iff_getElem?.2 ⟨i, kinds_at? hk hi⟩)
  unfold kidKind at h1
  split at h1
  · next h2 => have := inZ_yes.1 h2; omega
  · exact absurd rfl h1
end Go.Proofs.Ythlbboppdmdceaa
