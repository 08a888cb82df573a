/-
  Whether a gate is right: as it is asked one after the other; by the specification.
-/
import Derived.Test.YtnedpcgdepiakaaGatW
import Derived.Test.YtnedpcgdepiakaaGatI
import Derived.Test.YtnedpcgdepiakaaMatP
namespace Go.Proofs.Ytnedpcgdepiakaa
open Go.RowKit

def preG (g : Gt) : List Int := if 0 ≤ g.owner then [g.owner] else []
theorem who_pre (g : Gt) : whoG g = preG g ++ g.waits ++ g.queues.filter fun q => decide (0 ≤ q) := rfl
theorem gate_parts (g : Gt) : gateOkB g = true ↔ (inZ (-1) 3 g.owner = true ∧ g.queues.length ≤ 2 ∧ (0 ≤ g.owner ∨ g.waits = []) ∧ (∀ x ∈ g.waits, inZ 0 3 x = true) ∧ (∀ x ∈ g.queues, inZ (-1) 3 x = true) ∧ (whoG g).Nodup) := by
  simp only [gateOkB, Bool.and_eq_true, decide_eq_true_eq, List.all_eq_true]
  constructor
  · rintro ⟨⟨⟨⟨⟨a, b⟩, c⟩, d⟩, e⟩, f⟩
    exact ⟨a, b, c, d, e, f⟩
  · rintro ⟨a, b, c, d, e, f⟩
    exact ⟨⟨⟨⟨⟨a, b⟩, c⟩, d⟩, e⟩, f⟩
theorem gate_no {g : Gt} (h : ¬ (inZ (-1) 3 g.owner = true ∧ g.queues.length ≤ 2 ∧ (0 ≤ g.owner ∨ g.waits = []) ∧ (∀ x ∈ g.waits, inZ 0 3 x = true) ∧ (∀ x ∈ g.queues, inZ (-1) 3 x = true) ∧ (whoG g).Nodup)) : gateOkB g = false := by
  rw [Bool.eq_false_iff]
  exact fun q => h ((gate_parts g).1 q)
theorem nodup_snoc {l : List Int} {x : Int} : (l ++ [x]).Nodup ↔ l.Nodup ∧ x ∉ l := by
  rw [List.nodup_append]
  constructor
  · rintro ⟨h1, _, h3⟩
    exact ⟨h1, fun h => h3 x h x (List.mem_singleton.2 rfl) rfl⟩
  · rintro ⟨h1, h2⟩
    exact ⟨h1, by simp, fun a ha b hb e => by rw [List.mem_singleton.1 hb] at e; exact h2 (e ▸ ha)⟩
theorem bad_wait {g : Gt} {i : Nat} (hi : i < g.waits.length) (h : inZ 0 3 g.waits[i] = false) : gateOkB g = false := gate_no fun q => by
  have := q.2.2.2.1 _ (List.getElem_mem hi)
  rw [h] at this
  cases this
theorem bad_dup {g : Gt} {i : Nat} (hi : i < g.waits.length) (h : g.waits[i] ∈ preG g ++ g.waits.take i) : gateOkB g = false := gate_no fun q => by
  have hn := q.2.2.2.2.2
  rw [who_pre] at hn
  have h1 := (List.nodup_append.1 hn).1
  have e : preG g ++ g.waits = (preG g ++ g.waits.take (i + 1)) ++ g.waits.drop (i + 1) := by rw [List.append_assoc, List.take_append_drop]
  rw [e] at h1
  have h2 := (List.nodup_append.1 h1).1
  rw [List.take_succ_eq_append_getElem hi, ← List.append_assoc] at h2
  exact (nodup_snoc.1 h2).2 h
theorem bad_queue {g : Gt} {i : Nat} (hi : i < g.queues.length) (h : inZ (-1) 3 g.queues[i] = false) : gateOkB g = false := gate_no fun q => by
  have := q.2.2.2.2.1 _ (List.getElem_mem hi)
  rw [h] at this
  cases this
theorem bad_qdup {g : Gt} {i : Nat} (hi : i < g.queues.length) (h0 : 0 ≤ g.queues[i]) (h : g.queues[i] ∈ preG g ++ g.waits ++ g.queues.take i) : gateOkB g = false := gate_no fun q => by
  have hn := q.2.2.2.2.2
  rw [who_pre] at hn
  have e : g.queues.filter (fun q => decide (0 ≤ q)) = (g.queues.take (i + 1)).filter (fun q => decide (0 ≤ q)) ++ (g.queues.drop (i + 1)).filter (fun q => decide (0 ≤ q)) := by rw [← List.filter_append, List.take_append_drop]
  rw [e, ← List.append_assoc] at hn
  have h2 := (List.nodup_append.1 hn).1
  rw [List.take_succ_eq_append_getElem hi, List.filter_append] at h2
  have e2 : [g.queues[i]].filter (fun q => decide (0 ≤ q)) = [g.queues[i]] := by simp [h0]
  rw [e2, ← List.append_assoc] at h2
  have h3 := (nodup_snoc.1 h2).2
  apply h3
  rcases List.mem_append.1 h with h4 | h4
  · exact List.mem_append_left _ h4
  · exact List.mem_append_right _ (List.mem_filter.2 ⟨h4, by simpa using h0⟩)
/-- What holds of the first so many that wait. -/
structure WaG (g : Gt) (i : Nat) : Prop where
  z : ∀ j (h : j < g.waits.length), j < i → inZ 0 3 g.waits[j] = true
  n : (preG g ++ g.waits.take i).Nodup
theorem WaG.zero (g : Gt) : WaG g 0 := ⟨fun _ _ h => absurd h (Nat.not_lt_zero _), by rw [List.take_zero, List.append_nil]; unfold preG; split <;> simp⟩
theorem WaG.step {g : Gt} {i : Nat} (h : WaG g i) (hi : i < g.waits.length) (h1 : inZ 0 3 g.waits[i] = true) (h2 : g.waits[i] ∉ preG g ++ g.waits.take i) : WaG g (i + 1) := by
  refine ⟨fun j hj hji => ?_, ?_⟩
  · by_cases e : j = i
    · subst e; exact h1
    · exact h.z j hj (by omega)
  · rw [List.take_succ_eq_append_getElem hi, ← List.append_assoc]
    exact nodup_snoc.2 ⟨h.n, h2⟩
/-- What holds of the first so many queues. -/
structure QuG (g : Gt) (i : Nat) : Prop where
  z : ∀ j (h : j < g.queues.length), j < i → inZ (-1) 3 g.queues[j] = true
  n : (preG g ++ g.waits ++ (g.queues.take i).filter fun q => decide (0 ≤ q)).Nodup
theorem QuG.zero {g : Gt} (h : WaG g g.waits.length) : QuG g 0 := ⟨fun _ _ h => absurd h (Nat.not_lt_zero _), by have := h.n; rw [List.take_length] at this; simpa using this⟩
theorem QuG.step {g : Gt} {i : Nat} (h : QuG g i) (hi : i < g.queues.length) (h1 : inZ (-1) 3 g.queues[i] = true) (h2 : 0 ≤ g.queues[i] → g.queues[i] ∉ preG g ++ g.waits ++ g.queues.take i) : QuG g (i + 1) := by
  refine ⟨fun j hj hji => ?_, ?_⟩
  · by_cases e : j = i
    · subst e; exact h1
    · exact h.z j hj (by omega)
  · rw [List.take_succ_eq_append_getElem hi, List.filter_append]
    by_cases h0 : 0 ≤ g.queues[i]
    · have e2 : [g.queues[i]].filter (fun q => decide (0 ≤ q)) = [g.queues[i]] := by simp [h0]
      rw [e2, ← List.append_assoc]
      refine nodup_snoc.2 ⟨h.n, fun q => h2 h0 ?_⟩
      rcases List.mem_append.1 q with h4 | h4
      · exact List.mem_append_left _ h4
      · exact List.mem_append_right _ (List.mem_filter.1 h4).1
    · have e2 : [g.queues[i]].filter (fun q => decide (0 ≤ q)) = [] := by simp [h0]
      rw [e2, List.append_nil]
      exact h.n
theorem gate_good {g : Gt} (h1 : inZ (-1) 3 g.owner = true) (h2 : g.queues.length ≤ 2) (h3 : 0 ≤ g.owner ∨ g.waits = []) (hw : WaG g g.waits.length) (hq : QuG g g.queues.length) : gateOkB g = true := by
  refine (gate_parts g).2 ⟨h1, h2, h3, fun x hx => ?_, fun x hx => ?_, ?_⟩
  · obtain ⟨j, hj, rfl⟩ := List.getElem_of_mem hx
    exact hw.z j hj hj
  · obtain ⟨j, hj, rfl⟩ := List.getElem_of_mem hx
    exact hq.z j hj hj
  · have := hq.n
    rw [List.take_length] at this
    exact this
/-- While it is asked: the gate in its box, and the row of all so far. -/
structure GkZ (w : World) (o : Int) (v1 v2 : Value) (r : Value) (l : List Int) (z : World) : Prop where
  bx : Box z w.heap.size #[.int .i64 o, v1, v2] 24
  own : z.ownsRow (w.heap.size + 1) 3 1 r (l.map I64).length (l.map I64)
  bel : Below w.heap.size w z
  le : w.heap.size + 1 ≤ z.heap.size
theorem GkZ.stays {w : World} {o : Int} {v1 v2 r : Value} {l : List Int} {z z' : World} (h : GkZ w o v1 v2 r l z) (hb : Below z.heap.size z z') : GkZ w o v1 v2 r l z' := ⟨h.bx.stays hb, ownsInts_stays h.own hb, h.bel.trans (hb.mono h.bel.size), Nat.le_trans h.le hb.size⟩
theorem GkZ.more {w : World} {o : Int} {v1 v2 r : Value} {l : List Int} {x : Int} {W w' : World} {v' : Value} (h : GkZ w o v1 v2 r l W) (hm : MoreR (w.heap.size + 1) 3 W r (l.map I64) (.int .i64 x) v' w') : GkZ w o v1 v2 v' (l ++ [x]) w' := by
  refine ⟨box_more hm h.own h.bx (by decide), ?_, h.bel.trans (hm.bel.mono (by omega)), Nat.le_trans h.le hm.bel.size⟩
  have := hm.own
  rw [List.map_append]
  rw [List.length_append]
  exact this
theorem GkZ.ints {w : World} {o : Int} {v1 v2 r : Value} {l : List Int} {z : World} (h : GkZ w o v1 v2 r l z) : IntsAt z r l := by
  have := h.own
  rw [List.length_map] at this
  exact IntsIn.at (CellsIn.own this)
end Go.Proofs.Ytnedpcgdepiakaa
