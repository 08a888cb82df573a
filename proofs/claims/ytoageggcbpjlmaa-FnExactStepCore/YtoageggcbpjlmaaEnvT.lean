/-
  Two Envs put together by the specification: the state and its steps.
-/
import Derived.Test.YtoageggcbpjlmaaKeyW
import Derived.Test.YtoageggcbpjlmaaFlG
import Derived.Deep.CutRange
import Derived.Deep.RegionLaw
import Derived.Test.YtoageggcbpjlmaaChecked
import Derived.Test.YtoageggcbpjlmaaTreeP
import Derived.WalkSmall
import Derived.Test.YtoageggcbpjlmaaAid
namespace Go.Proofs.Ytoageggcbpjlmaa
open Go.RowKit

theorem box_more {B e : Nat} {W w' : World} {v v' u : Value} {xs : List Value} (hm : MoreR B e W v xs u v' w') {b : Nat} {cs : Array Value} {T : TypeId} (hown : W.ownsRow B e 1 v xs.length xs) (hb : Box W b cs T) (hT : T ≠ e) : Box w' b cs T := (hm.oth b (Lib.ownBlock_ne hown hb hT) hb.lt).trans hb
theorem set_fst (a b v : Value) : (#[a, b] : Array Value).setIfInBounds 0 v = #[v, b] := rfl
theorem set_snd (a b v : Value) : (#[a, b] : Array Value).setIfInBounds 1 v = #[a, v] := rfl
end Go.Proofs.Ytoageggcbpjlmaa

namespace Go.Proofs.Ytoageggcbpjlmaa
open Go.RowKit
open Go.ChangeShapes Go.WideShapes Go.ChangeAt Go.Deep

def neg1 : Value := .int .i64 (-1)
theorem set_thd (a b c v : Value) : (#[a, b, c] : Array Value).setIfInBounds 2 v = #[a, b, v] := rfl
theorem wpList_more {P : Program} {W : World} {ops : Array Oper} {rest : List Oper} {o : Oper} {a : Act} {Q : Exit → Act → World → Prop} (hgd : o.guard = none) (s x : Operand) (t : TypeId)
    (ho : o.op = .call { callee := .builtin .append, args := #[s, x], argTypes := #[t, t] })
    (B : Nat) (e : TypeId) (z : Value) (bytes : Nat) (ht : P.underlying t = some (.slice e)) (hi : (P.info? e).map (fun i => (i.zero, i.size, i.bytes)) = some (some z, 1, bytes)) (hzs : z.cells.size = 1)
    (v : Value) (xs : List Value) (hs : a.eval s = v) (hown : W.ownsRow B e 1 v xs.length xs) (g : Nat) (u : Value) (hx : a.eval x = .slice (some ⟨g, 0, none⟩) 1 1) (hu : W.cell? ⟨g, 0, none⟩ = some u) (h1 : u.oneCell' = true)
    (h63 : xs.length + 1 ≤ maxLen) (hbytes : (xs.length + 1) * bytes ≤ 140737488355328) (hB : B ≤ W.heap.size)
    (h : ∀ v' w', MoreR B e W v xs u v' w' → wpList P ops Q rest (a.put o.dst v') w') : wpList P ops Q (o :: rest) a W :=
  wpList_step fun _ hK => step_more hgd s x t ho B e z bytes ht hi hzs v xs hs hown g u hx hu h1 h63 hbytes hB fun v' w' hm => hK _ _ (h v' w' hm)
end Go.Proofs.Ytoageggcbpjlmaa

namespace Go.Proofs.Ytoageggcbpjlmaa
open Go.RowKit

def InZR (w : World) (xs : List Int) (s : Int) (n : Nat) (iv : Value) (wr : World) : Prop := ∃ i : Nat, i ≤ n ∧ iv = .int .i64 i ∧ wr = w ∧ Hid (∀ j, j < i → xs[j]? ≠ some s)

end Go.Proofs.Ytoageggcbpjlmaa

namespace Go.Proofs.Ytoageggcbpjlmaa
open Go.RowKit

def preG (g : Gt) : List Int := if 0 ≤ g.owner then [g.owner] else []
theorem who_pre (g : Gt) : whoG g = preG g ++ g.waits ++ g.queues.filter fun q => decide (0 ≤ q) := rfl
theorem gate_parts (g : Gt) : gateOkB g = true ↔ (inZ (-1) 3 g.owner = true ∧ g.queues.length ≤ 2 ∧ (0 ≤ g.owner ∨ g.waits = []) ∧ (∀ x ∈ g.waits, inZ 0 3 x = true) ∧ (∀ x ∈ g.queues, inZ (-1) 3 x = true) ∧ (whoG g).Nodup) := by
  simp only [gateOkB, Bool.and_eq_true, decide_eq_true_eq, List.all_eq_true]
  constructor
  · rintro ⟨⟨⟨⟨⟨a, b⟩, c⟩, d⟩, e⟩, f⟩
    exact ⟨a, b, c, d, e, f⟩
  · rintro ⟨a, b, c, d, e, f⟩
    exact ⟨⟨⟨⟨⟨a, b⟩, c⟩, d⟩, e⟩, f⟩
theorem gate_no {g : Gt} (h : ¬ (inZ (-1) 3 g.owner = true ∧ g.queues.length ≤ 2 ∧ (0 ≤ g.owner ∨ g.waits = []) ∧ (∀ x ∈ g.waits, inZ 0 3 x = true) ∧ (∀ x ∈ g.queues, inZ (-1) 3 x = true) ∧ (whoG g).Nodup)) : gateOkB g = false := by
  rw [Bool.eq_false_iff]
  exact fun q => h ((gate_parts g).1 q)
theorem nodup_snoc {l : List Int} {x : Int} : (l ++ [x]).Nodup ↔ l.Nodup ∧ x ∉ l := by
  rw [List.nodup_append]
  constructor
  · rintro ⟨h1, _, h3⟩
    exact ⟨h1, fun h => h3 x h x (List.mem_singleton.2 rfl) rfl⟩
  · rintro ⟨h1, h2⟩
    exact ⟨h1, by simp, fun a ha b hb e => by rw [List.mem_singleton.1 hb] at e; exact h2 (e ▸ ha)⟩
theorem bad_wait {g : Gt} {i : Nat} (hi : i < g.waits.length) (h : inZ 0 3 g.waits[i] = false) : gateOkB g = false := gate_no fun q => by
  have := q.2.2.2.1 _ (List.getElem_mem hi)
  rw [h] at this
  cases this
theorem bad_dup {g : Gt} {i : Nat} (hi : i < g.waits.length) (h : g.waits[i] ∈ preG g ++ g.waits.take i) : gateOkB g = false := gate_no fun q => by
  have hn := q.2.2.2.2.2
  rw [who_pre] at hn
  have h1 := (List.nodup_append.1 hn).1
  have e : preG g ++ g.waits = (preG g ++ g.waits.take (i + 1)) ++ g.waits.drop (i + 1) := by rw [List.append_assoc, List.take_append_drop]
  rw [e] at h1
  have h2 := (List.nodup_append.1 h1).1
  rw [List.take_succ_eq_append_getElem hi, ← List.append_assoc] at h2
  exact (nodup_snoc.1 h2).2 h
theorem bad_queue {g : Gt} {i : Nat} (hi : i < g.queues.length) (h : inZ (-1) 3 g.queues[i] = false) : gateOkB g = false := gate_no fun q => by
  have := q.2.2.2.2.1 _ (List.getElem_mem hi)
  rw [h] at this
  cases this
theorem bad_qdup {g : Gt} {i : Nat} (hi : i < g.queues.length) (h0 : 0 ≤ g.queues[i]) (h : g.queues[i] ∈ preG g ++ g.waits ++ g.queues.take i) : gateOkB g = false := gate_no fun q => by
  have hn := q.2.2.2.2.2
  rw [who_pre] at hn
  have e : g.queues.filter (fun q => decide (0 ≤ q)) = (g.queues.take (i + 1)).filter (fun q => decide (0 ≤ q)) ++ (g.queues.drop (i + 1)).filter (fun q => decide (0 ≤ q)) := by rw [← List.filter_append, List.take_append_drop]
  rw [e, ← List.append_assoc] at hn
  have h2 := (List.nodup_append.1 hn).1
  rw [List.take_succ_eq_append_getElem hi, List.filter_append] at h2
  have e2 : [g.queues[i]].filter (fun q => decide (0 ≤ q)) = [g.queues[i]] := by simp [h0]
  rw [e2, ← List.append_assoc] at h2
  have h3 := (nodup_snoc.1 h2).2
  apply h3
  rcases List.mem_append.1 h with h4 | h4
  · exact List.mem_append_left _ h4
  · exact List.mem_append_right _ (List.mem_filter.2 ⟨h4, by simpa using h0⟩)
/-- What holds of the first so many that wait. -/
structure WaG (g : Gt) (i : Nat) : Prop where
  z : ∀ j (h : j < g.waits.length), j < i → inZ 0 3 g.waits[j] = true
  n : (preG g ++ g.waits.take i).Nodup
theorem WaG.zero (g : Gt) : WaG g 0 := ⟨fun _ _ h => absurd h (Nat.not_lt_zero _), by rw [List.take_zero, List.append_nil]; unfold preG; split <;> simp⟩
theorem WaG.step {g : Gt} {i : Nat} (h : WaG g i) (hi : i < g.waits.length) (h1 : inZ 0 3 g.waits[i] = true) (h2 : g.waits[i] ∉ preG g ++ g.waits.take i) : WaG g (i + 1) := by
  refine ⟨fun j hj hji => ?_, ?_⟩
  · by_cases e : j = i
    · subst e; exact h1
    · exact h.z j hj (by omega)
  · rw [List.take_succ_eq_append_getElem hi, ← List.append_assoc]
    exact nodup_snoc.2 ⟨h.n, h2⟩
/-- What holds of the first so many queues. -/
structure QuG (g : Gt) (i : Nat) : Prop where
  z : ∀ j (h : j < g.queues.length), j < i → inZ (-1) 3 g.queues[j] = true
  n : (preG g ++ g.waits ++ (g.queues.take i).filter fun q => decide (0 ≤ q)).Nodup
theorem QuG.zero {g : Gt} (h : WaG g g.waits.length) : QuG g 0 := ⟨fun _ _ h => absurd h (Nat.not_lt_zero _), by have := h.n; rw [List.take_length] at this; simpa using this⟩
theorem QuG.step {g : Gt} {i : Nat} (h : QuG g i) (hi : i < g.queues.length) (h1 : inZ (-1) 3 g.queues[i] = true) (h2 : 0 ≤ g.queues[i] → g.queues[i] ∉ preG g ++ g.waits ++ g.queues.take i) : QuG g (i + 1) := by
  refine ⟨fun j hj hji => ?_, ?_⟩
  · by_cases e : j = i
    · subst e; exact h1
    · exact h.z j hj (by omega)
  · rw [List.take_succ_eq_append_getElem hi, List.filter_append]
    by_cases h0 : 0 ≤ g.queues[i]
    · have e2 : [g.queues[i]].filter (fun q => decide (0 ≤ q)) = [g.queues[i]] := by simp [h0]
      rw [e2, ← List.append_assoc]
      refine nodup_snoc.2 ⟨h.n, fun q => h2 h0 ?_⟩
      rcases List.mem_append.1 q with h4 | h4
      · exact List.mem_append_left _ h4
      · exact List.mem_append_right _ (List.mem_filter.1 h4).1
    · have e2 : [g.queues[i]].filter (fun q => decide (0 ≤ q)) = [] := by simp [h0]
      rw [e2, List.append_nil]
      exact h.n
theorem gate_good {g : Gt} (h1 : inZ (-1) 3 g.owner = true) (h2 : g.queues.length ≤ 2) (h3 : 0 ≤ g.owner ∨ g.waits = []) (hw : WaG g g.waits.length) (hq : QuG g g.queues.length) : gateOkB g = true := by
  refine (gate_parts g).2 ⟨h1, h2, h3, fun x hx => ?_, fun x hx => ?_, ?_⟩
  · obtain ⟨j, hj, rfl⟩ := List.getElem_of_mem hx
    exact hw.z j hj hj
  · obtain ⟨j, hj, rfl⟩ := List.getElem_of_mem hx
    exact hq.z j hj hj
  · have := hq.n
    rw [List.take_length] at this
    exact this
end Go.Proofs.Ytoageggcbpjlmaa

namespace Go.Proofs.Ytoageggcbpjlmaa
open Go.RowKit

theorem specInZ (n lo hi : Int) (w : World) : Calls Try.prog 27 #[.int .i64 n, .int .i64 lo, .int .i64 hi] w fun e w' => e = .returned (.bool (inZ lo hi n)) ∧ w = w' := by
  refine (specIn n lo hi w).mono ?_
  rintro e w' ⟨rfl, rfl⟩
  refine ⟨?_, rfl⟩
  congr 2
  by_cases h1 : lo ≤ n <;> by_cases h2 : n ≤ hi <;> simp [inZ, h1, h2]

end Go.Proofs.Ytoageggcbpjlmaa

namespace Go.Proofs.Ytoageggcbpjlmaa
open Go.RowKit

theorem set_first (a b c v : Value) : (#[a, b, c] : Array Value).setIfInBounds 0 v = #[v, b, c] := rfl
theorem set_second (a b c v : Value) : (#[a, b, c] : Array Value).setIfInBounds 1 v = #[a, v, c] := rfl
theorem GtOwn.boxG {B G i : Nat} {z : World} {r1 r2 : Value} {y : Gt} {cs : Array Value} {T : TypeId} (h : GtOwn B z r1 r2 y) (hb : Box z G cs T) (hT : T ≠ 3) (u : Value) : GtOwn B (z.setCell ⟨G, i, none⟩ u) r1 r2 y :=
  ⟨owns_eq h.o1 fun g hg => Below.heap_setCell _ ⟨G, i, none⟩ _ g (fun e => Lib.ownBlock_ne h.o1 hb hT (by rw [hg, show g = G from e])), owns_eq h.o2 fun g hg => Below.heap_setCell _ ⟨G, i, none⟩ _ g (fun e => Lib.ownBlock_ne h.o2 hb hT (by rw [hg, show g = G from e])), h.ap⟩
/-- Several values appended to a row that is owned. -/
theorem wpList_appM {P : Program} {w : World} {ops : Array Oper} {rest : List Oper} {o : Oper} {a : Act} {Q : Exit → Act → World → Prop} (hgd : o.guard = none) (s x : Operand) (t : TypeId)
    (ho : o.op = .call { callee := .builtin .append, args := #[s, x], argTypes := #[t, t] })
    (base : Nat) (e : TypeId) (z : Value) (bytes : Nat) (ht : P.underlying t = some (.slice e)) (hi : (P.info? e).map (fun i => (i.zero, i.size, i.bytes)) = some (some z, 1, bytes)) (hzs : z.cells.size = 1)
    (v : Value) (n : Nat) (xs : List Value) (hs : a.eval s = v) (hown : w.ownsRow base e 1 v n xs)
    (ad : Addr) (m c : Nat) (news : List Value) (hx : a.eval x = .slice (some ad) m c) (hl : news.length = m) (hnews : ∀ j u, news[j]? = some u → w.cell? (ad.add j) = some u) (h1 : ∀ u ∈ news, u.oneCell' = true)
    (h63 : n + m ≤ maxLen) (hbytes : (n + m) * bytes ≤ 140737488355328) (hbase : base ≤ w.heap.size)
    (h : ∀ v' w', w'.ownsRow base e 1 v' (n + m) (xs ++ news) → Below base w w' → wpList P ops Q rest (a.put o.dst v') w') : wpList P ops Q (o :: rest) a w := by
  obtain ⟨i, hi, hz0, hz1, hz2⟩ := info_parts hi
  refine wpList_append_own _ hgd s x t ho base e i z 1 bytes ht hi hz0 hz1 hz2 hzs (by decide) v n xs hs hown ad m c news hx (by omega) hnews h1 h63 hbytes hbase ?_
  intro v' w' hown' hgrow _
  exact h v' w' hown' ((Below.refl base w).grown hgrow hbase (fun j hj => (hown.lt j hj).1))
end Go.Proofs.Ytoageggcbpjlmaa
