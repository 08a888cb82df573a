/-
  A row copied into a new one: 'append([]T{}, xs...)' in a region that draws its order.
-/
import Derived.Test.YtgeomgghecmkbaaMarkI
import Derived.Test.YtgeomgghecmkbaaAppQ
import Derived.Maps.AppendAt
import Derived.Deep.RegionHeld3
namespace Go.Proofs.Ytgeomgghecmkbaa
open Go.RowKit

/-- A row of values that can be read. -/
def RowAt (w : World) (v : Value) (us : List Value) : Prop := ∃ ao c, v = .slice ao us.length c ∧ ∀ j u, us[j]? = some u → ∃ a, ao = some a ∧ a.block < w.heap.size ∧ w.cell? (a.add j) = some u
theorem IntsAt.row {w : World} {v : Value} {xs : List Int} (h : IntsAt w v xs) : RowAt w v (xs.map I64) := by
  obtain ⟨ao, c, rfl, hc⟩ := h
  refine ⟨ao, c, by rw [List.length_map], fun j u hj => ?_⟩
  rw [List.getElem?_map] at hj
  obtain ⟨y, hy, rfl⟩ := Option.map_eq_some_iff.1 hj
  obtain ⟨hj2, rfl⟩ := List.getElem?_eq_some_iff.1 hy
  exact hc j hj2
theorem StrsAt.row {w : World} {v : Value} {xs : List ByteArray} (h : StrsAt w v xs) : RowAt w v (xs.map Value.string) := by
  obtain ⟨ao, c, rfl, hc⟩ := h
  refine ⟨ao, c, by rw [List.length_map], fun j u hj => ?_⟩
  rw [List.getElem?_map] at hj
  obtain ⟨y, hy, rfl⟩ := Option.map_eq_some_iff.1 hj
  obtain ⟨hj2, rfl⟩ := List.getElem?_eq_some_iff.1 hy
  exact hc j hj2
/-- What such a copy leaves: its row, all else as it was. -/
structure CopyR (B e b : Nat) (W : World) (us : List Value) (v : Value) (w' : World) : Prop where
  own : w'.ownsRow B e 1 v us.length us
  bel : Below b W w'
  oth : ∀ g, g ≠ b → g < W.heap.size → w'.heap[g]? = W.heap[g]?
  pos : v.ownBlock = some b ∨ v.ownBlock = some W.heap.size
theorem CopyR.box {B e b : Nat} {W : World} {us : List Value} {v : Value} {w' : World} (h : CopyR B e b W us v w') {g : Nat} {cs : Array Value} {T : TypeId} (hb : Box W g cs T) (hne : g ≠ b) : Box w' g cs T := (h.oth g hne hb.lt).trans hb
theorem box_one (W : World) (e : TypeId) : Box (W.alloc (.cells #[] e)) W.heap.size #[] e := Box.made _ _ _
theorem box_two1 (W : World) (o : Obj) (e : TypeId) : Box ((W.alloc (.cells #[] e)).alloc o) W.heap.size #[] e := (Box.made _ _ _).stays ((Below.refl _ _).alloc (Nat.le_refl _) _)
theorem box_two2 (W : World) (o : Obj) (e : TypeId) : Box ((W.alloc o).alloc (.cells #[] e)) (W.heap.size + 1) #[] e := Box.madeAt (by simp) _ _
theorem owns_nil {W : World} {b B : Nat} {e : TypeId} (h : Box W b #[] e) (hB : B ≤ b) : W.ownsRow B e 1 (.slice (some ⟨b, 0, none⟩) 0 0) 0 [] := by
  refine ⟨by simp, .inr ⟨b, 0, #[], rfl, hB, h, by simp, by simp [maxLen], by simp, by simp⟩⟩
theorem step_copy {P : Program} {W : World} {ops : Array Oper} {o : Oper} {a : Act} {K : Act → World → Prop} {Q : Exit → Act → World → Prop} {E : Prop} (hgd : o.guard = none) (s x : Operand) (t : TypeId)
    (ho : o.op = .call { callee := .builtin .append, args := #[s, x], argTypes := #[t, t] })
    (B : Nat) (e : TypeId) (z : Value) (bytes : Nat) (ht : P.underlying t = some (.slice e)) (hi : (P.info? e).map (fun i => (i.zero, i.size, i.bytes)) = some (some z, 1, bytes)) (hzs : z.cells.size = 1)
    (b : Nat) (hs : a.eval s = .slice (some ⟨b, 0, none⟩) 0 0) (hbox : Box W b #[] e) (hB : B ≤ b) (xv : Value) (us : List Value) (hx : a.eval x = xv) (hat : RowAt W xv us) (h1 : ∀ u ∈ us, u.oneCell' = true)
    (h63 : us.length ≤ maxLen) (hbytes : us.length * bytes ≤ 140737488355328)
    (h : ∀ v' w', CopyR B e b W us v' w' → K (a.put o.dst v') w') :
    if Region.wanted o (yielded ops a.tmps) = true then Oper.wp P o a W K Q else E := by
  have hw : Region.wanted o (yielded ops a.tmps) = true := by simp [Region.wanted, hgd]
  rw [if_pos hw]
  obtain ⟨i, hi', hz0, hz1, hz2⟩ := info_parts hi
  have hlt := hbox.lt
  obtain ⟨ao, c, rfl, hc⟩ := hat
  cases ao with
  | some ad =>
    obtain ⟨v', w', hr, h2, h3, _, h5⟩ := run_append_own_at (P := P) W B t o.type e i z 1 bytes ht hi' hz0 hz1 hz2 hzs (by decide) (.slice (some ⟨b, 0, none⟩) 0 0) 0 [] (owns_nil hbox hB) ad us.length c us (by omega) (fun j u hj => by
      obtain ⟨a', ha, _, hcell⟩ := hc j u hj
      cases ha
      exact hcell) h1 (by omega) (by rw [Nat.zero_add]; exact hbytes) (by omega)
    unfold Oper.wp execOp
    simp only [ho, resolve, invoke, builtin, Sem.run_bind, Sem.run_pure, Result.andThen_ok, List.map_toArray, List.map_cons, List.map_nil, hs, hx, hr]
    refine h v' w' ⟨by rw [Nat.zero_add] at h2; simpa using h2, (Below.refl b W).grown h3 (Nat.le_of_lt hlt) (fun j hj => by cases hj; exact Nat.le_refl _), fun g hg hgl => h3.block g hgl (fun e => hg (by injection e)), h5⟩
  | none =>
    have h0 : us = [] := by
      rcases us with _ | ⟨y, us⟩
      · rfl
      · obtain ⟨a', ha, _⟩ := hc 0 y rfl
        cases ha
    subst h0
    have hr := run_append_none (P := P) W t o.type e i ht hi' (some ⟨b, 0, none⟩) 0 0 c (Nat.le_refl _)
    unfold Oper.wp execOp
    simp only [ho, resolve, invoke, builtin, Sem.run_bind, Sem.run_pure, Result.andThen_ok, List.map_toArray, List.map_cons, List.map_nil, hs, hx, List.length_nil, hr]
    exact h _ _ ⟨owns_nil hbox hB, Below.refl _ _, fun _ _ _ => rfl, .inl rfl⟩
/-- What one value more leaves. -/
structure MoreR (B e : Nat) (W : World) (v : Value) (xs : List Value) (u : Value) (v' : Value) (w' : World) : Prop where
  own : w'.ownsRow B e 1 v' (xs.length + 1) (xs ++ [u])
  bel : Below B W w'
  oth : ∀ g, v.ownBlock ≠ some g → g < W.heap.size → w'.heap[g]? = W.heap[g]?
  pos : v'.ownBlock = v.ownBlock ∨ v'.ownBlock = some W.heap.size
theorem step_more {P : Program} {W : World} {ops : Array Oper} {o : Oper} {a : Act} {K : Act → World → Prop} {Q : Exit → Act → World → Prop} {E : Prop} (hgd : o.guard = none) (s x : Operand) (t : TypeId)
    (ho : o.op = .call { callee := .builtin .append, args := #[s, x], argTypes := #[t, t] })
    (B : Nat) (e : TypeId) (z : Value) (bytes : Nat) (ht : P.underlying t = some (.slice e)) (hi : (P.info? e).map (fun i => (i.zero, i.size, i.bytes)) = some (some z, 1, bytes)) (hzs : z.cells.size = 1)
    (v : Value) (xs : List Value) (hs : a.eval s = v) (hown : W.ownsRow B e 1 v xs.length xs) (g : Nat) (u : Value) (hx : a.eval x = .slice (some ⟨g, 0, none⟩) 1 1) (hu : W.cell? ⟨g, 0, none⟩ = some u) (h1 : u.oneCell' = true)
    (h63 : xs.length + 1 ≤ maxLen) (hbytes : (xs.length + 1) * bytes ≤ 140737488355328) (hB : B ≤ W.heap.size)
    (h : ∀ v' w', MoreR B e W v xs u v' w' → K (a.put o.dst v') w') :
    if Region.wanted o (yielded ops a.tmps) = true then Oper.wp P o a W K Q else E := by
  have hw : Region.wanted o (yielded ops a.tmps) = true := by simp [Region.wanted, hgd]
  rw [if_pos hw]
  obtain ⟨i, hi', hz0, hz1, hz2⟩ := info_parts hi
  obtain ⟨v', w', hr, h2, h3, _, h5⟩ := run_append_own_at (P := P) W B t o.type e i z 1 bytes ht hi' hz0 hz1 hz2 hzs (by decide) v xs.length xs hown ⟨g, 0, none⟩ 1 1 [u] rfl (fun j w hj => by
    rcases j with _ | j
    · simp at hj
      subst hj
      rw [add_zero_at]
      exact hu
    · simp at hj) (by intro w hw; simp at hw; subst hw; exact h1) h63 hbytes hB
  unfold Oper.wp execOp
  simp only [ho, resolve, invoke, builtin, Sem.run_bind, Sem.run_pure, Result.andThen_ok, List.map_toArray, List.map_cons, List.map_nil, hs, hx, hr]
  exact h v' w' ⟨h2, (Below.refl B W).grown h3 hB (fun j hj => (hown.lt j hj).1), fun g' hg hgl => h3.block g' hgl (fun e => hg e.symm), h5⟩
end Go.Proofs.Ytgeomgghecmkbaa
