/-
  Whether a gate is right: as it is asked one after the other; by the specification.
-/
import Derived.Test.YtmchgmpdhfefjaaRuneP
import Derived.Test.YtmchgmpdhfefjaaCorQ
import Derived.Test.YtmchgmpdhfefjaaAid
import Derived.Test.YtmchgmpdhfefjaaInsP
import Derived.Test.YtmchgmpdhfefjaaLawT
import Derived.Test.YtmchgmpdhfefjaaAidD
import Derived.Test.YtmchgmpdhfefjaaFlG
namespace Go.Proofs.Ytmchgmpdhfefjaa
open Go.RowKit

def preG (g : Gt) : List Int := if 0 ≤ g.owner then [g.owner] else []
theorem who_pre (g : Gt) : whoG g = preG g ++ g.waits ++ g.queues.filter fun q => decide (0 ≤ q) := rfl
theorem gate_parts (g : Gt) : gateOkB g = true ↔ (inZ (-1) 3 g.owner = true ∧ g.queues.length ≤ 2 ∧ (0 ≤ g.owner ∨ g.waits = []) ∧ (∀ x ∈ g.waits, inZ 0 3 x = true) ∧ (∀ x ∈ g.queues, inZ (-1) 3 x = true) ∧ (whoG g).Nodup) := by
  simp only [gateOkB, Bool.and_eq_true, decide_eq_true_eq, List.all_eq_true]
  constructor
  · rintro ⟨⟨⟨⟨⟨a, b⟩, c⟩, d⟩, e⟩, f⟩
    exact ⟨a, b, c, d, e, f⟩
  · rintro ⟨a, b, c, d, e, f⟩
    exact ⟨⟨⟨⟨⟨a, b⟩, c⟩, d⟩, e⟩, f⟩
theorem gate_no {g : Gt} (h : ¬ (inZ (-1) 3 g.owner = true ∧ g.queues.length ≤ 2 ∧ (0 ≤ g.owner ∨ g.waits = []) ∧ (∀ x ∈ g.waits, inZ 0 3 x = true) ∧ (∀ x ∈ g.queues, inZ (-1) 3 x = true) ∧ (whoG g).Nodup)) : gateOkB g = false := by
  rw [Bool.eq_false_iff]
  exact fun q => h ((gate_parts g).1 q)
theorem nodup_snoc {l : List Int} {x : Int} : (l ++ [x]).Nodup ↔ l.Nodup ∧ x ∉ l := by
  rw [List.nodup_append]
  constructor
  · rintro ⟨h1, _, h3⟩
    exact ⟨h1, fun h => h3 x h x (List.mem_singleton.2 rfl) rfl⟩
  · rintro ⟨h1, h2⟩
    exact ⟨h1, by simp, fun a ha b hb e => by rw [List.mem_singleton.1 hb] at e; exact h2 (e ▸ ha)⟩
theorem bad_wait {g : Gt} {i : Nat} (hi : i < g.waits.length) (h : inZ 0 3 g.waits[i] = false) : gateOkB g = false := gate_no fun q => by
  have := q.2.2.2.1 _ (List.getElem_mem hi)
  rw [h] at this
  cases this
theorem bad_dup {g : Gt} {i : Nat} (hi : i < g.waits.length) (h : g.waits[i] ∈ preG g ++ g.waits.take i) : gateOkB g = false := gate_no fun q => by
  have hn := q.2.2.2.2.2
  rw [who_pre] at hn
  have h1 := (List.nodup_append.1 hn).1
  have e : preG g ++ g.waits = (preG g ++ g.waits.take (i + 1)) ++ g.waits.drop (i + 1) := by rw [List.append_assoc, List.take_append_drop]
  rw [e] at h1
  have h2 := (List.nodup_append.1 h1).1
  rw [List.take_succ_eq_append_getElem hi, ← List.append_assoc] at h2
  exact (nodup_snoc.1 h2).2 h
theorem bad_queue {g : Gt} {i : Nat} (hi : i < g.queues.length) (h : inZ (-1) 3 g.queues[i] = false) : gateOkB g = false := gate_no fun q => by
  have := q.2.2.2.2.1 _ (List.getElem_mem hi)
  rw [h] at this
  cases this
theorem bad_qdup {g : Gt} {i : Nat} (hi : i < g.queues.length) (h0 : 0 ≤ g.queues[i]) (h : g.queues[i] ∈ preG g ++ g.waits ++ g.queues.take i) : gateOkB g = false := gate_no fun q => by
  have hn := q.2.2.2.2.2
  rw [who_pre] at hn
  have e : g.queues.filter (fun q => decide (0 ≤ q)) = (g.queues.take (i + 1)).filter (fun q => decide (0 ≤ q)) ++ (g.queues.drop (i + 1)).filter (fun q => decide (0 ≤ q)) := by rw [← List.filter_append, List.take_append_drop]
  rw [e, ← List.append_assoc] at hn
  have h2 := (List.nodup_append.1 hn).1
  rw [List.take_succ_eq_append_getElem hi, List.filter_append] at h2
  have e2 : [g.queues[i]].filter (fun q => decide (0 ≤ q)) = [g.queues[i]] := by simp [h0]
  rw [e2, ← List.append_assoc] at h2
  have h3 := (nodup_snoc.1 h2).2
  apply h3
  rcases List.mem_append.1 h with h4 | h4
  · exact List.mem_append_left _ h4
  · exact List.mem_append_right _ (List.mem_filter.2 ⟨h4, by simpa using h0⟩)
/-- What holds of the first so many that wait. -/
structure WaG (g : Gt) (i : Nat) : Prop where
  z : ∀ j (h : j < g.waits.length), j < i → inZ 0 3 g.waits[j] = true
  n : (preG g ++ g.waits.take i).Nodup
theorem WaG.zero (g : Gt) : WaG g 0 := ⟨fun _ _ h => absurd h (Nat.not_lt_zero _), by rw [List.take_zero, List.append_nil]; unfold preG; split <;> simp⟩
theorem WaG.step {g : Gt} {i : Nat} (h : WaG g i) (hi : i < g.waits.length) (h1 : inZ 0 3 g.waits[i] = true) (h2 : g.waits[i] ∉ preG g ++ g.waits.take i) : WaG g (i + 1) := by
  refine ⟨fun j hj hji => ?_, ?_⟩
  · by_cases e : j = i
    · subst e; exact h1
    · exact h.z j hj (by omega)
  · rw [List.take_succ_eq_append_getElem hi, ← List.append_assoc]
    exact nodup_snoc.2 ⟨h.n, h2⟩
/-- What holds of the first so many queues. -/
structure QuG (g : Gt) (i : Nat) : Prop where
  z : ∀ j (h : j < g.queues.length), j < i → inZ (-1) 3 g.queues[j] = true
  n : (preG g ++ g.waits ++ (g.queues.take i).filter fun q => decide (0 ≤ q)).Nodup
theorem QuG.zero {g : Gt} (h : WaG g g.waits.length) : QuG g 0 := ⟨fun _ _ h => absurd h (Nat.not_lt_zero _), by have := h.n; rw [List.take_length] at this; simpa using this⟩
theorem QuG.step {g : Gt} {i : Nat} (h : QuG g i) (hi : i < g.queues.length) (h1 : inZ (-1) 3 g.queues[i] = true) (h2 : 0 ≤ g.queues[i] → g.queues[i] ∉ preG g ++ g.waits ++ g.queues.take i) : QuG g (i + 1) := by
  refine ⟨fun j hj hji => ?_, ?_⟩
  · by_cases e : j = i
    · subst e; exact h1
    · exact h.z j hj (by omega)
  · rw [List.take_succ_eq_append_getElem hi, List.filter_append]
    by_cases h0 : 0 ≤ g.queues[i]
    · have e2 : [g.queues[i]].filter (fun q => decide (0 ≤ q)) = [g.queues[i]] := by simp [h0]
      rw [e2, ← List.append_assoc]
      refine nodup_snoc.2 ⟨h.n, fun q => h2 h0 ?_⟩
      rcases List.mem_append.1 q with h4 | h4
      · exact List.mem_append_left _ h4
      · exact List.mem_append_right _ (List.mem_filter.1 h4).1
    · have e2 : [g.queues[i]].filter (fun q => decide (0 ≤ q)) = [] := by simp [h0]
      rw [e2, List.append_nil]
      exact h.n
theorem gate_good {g : Gt} (h1 : inZ (-1) 3 g.owner = true) (h2 : g.queues.length ≤ 2) (h3 : 0 ≤ g.owner ∨ g.waits = []) (hw : WaG g g.waits.length) (hq : QuG g g.queues.length) : gateOkB g = true := by
  refine (gate_parts g).2 ⟨h1, h2, h3, fun x hx => ?_, fun x hx => ?_, ?_⟩
  · obtain ⟨j, hj, rfl⟩ := List.getElem_of_mem hx
    exact hw.z j hj hj
  · obtain ⟨j, hj, rfl⟩ := List.getElem_of_mem hx
    exact hq.z j hj hj
  · have := hq.n
    rw [List.take_length] at this
    exact this
end Go.Proofs.Ytmchgmpdhfefjaa

namespace Go.Proofs.Ytmchgmpdhfefjaa
open Go.RowKit

theorem specInZ (n lo hi : Int) (w : World) : Calls Try.prog 34 #[.int .i64 n, .int .i64 lo, .int .i64 hi] w fun e w' => e = .returned (.bool (inZ lo hi n)) ∧ w = w' := by
  refine (specIn n lo hi w).mono ?_
  rintro e w' ⟨rfl, rfl⟩
  refine ⟨?_, rfl⟩
  congr 2
  by_cases h1 : lo ≤ n <;> by_cases h2 : n ≤ hi <;> simp [inZ, h1, h2]

end Go.Proofs.Ytmchgmpdhfefjaa

namespace Go.Proofs.Ytmchgmpdhfefjaa
open Go.RowKit

theorem set_first (a b c v : Value) : (#[a, b, c] : Array Value).setIfInBounds 0 v = #[v, b, c] := rfl
theorem set_second (a b c v : Value) : (#[a, b, c] : Array Value).setIfInBounds 1 v = #[a, v, c] := rfl
theorem GtOwn.boxG {B G i : Nat} {z : World} {r1 r2 : Value} {y : Gt} {cs : Array Value} {T : TypeId} (h : GtOwn B z r1 r2 y) (hb : Box z G cs T) (hT : T ≠ 3) (u : Value) : GtOwn B (z.setCell ⟨G, i, none⟩ u) r1 r2 y :=
  ⟨owns_eq h.o1 fun g hg => Below.heap_setCell _ ⟨G, i, none⟩ _ g (fun e => Lib.ownBlock_ne h.o1 hb hT (by rw [hg, show g = G from e])), owns_eq h.o2 fun g hg => Below.heap_setCell _ ⟨G, i, none⟩ _ g (fun e => Lib.ownBlock_ne h.o2 hb hT (by rw [hg, show g = G from e])), h.ap⟩
/-- Several values appended to a row that is owned. -/
theorem wpList_appM {P : Program} {w : World} {ops : Array Oper} {rest : List Oper} {o : Oper} {a : Act} {Q : Exit → Act → World → Prop} (hgd : o.guard = none) (s x : Operand) (t : TypeId)
    (ho : o.op = .call { callee := .builtin .append, args := #[s, x], argTypes := #[t, t] })
    (base : Nat) (e : TypeId) (z : Value) (bytes : Nat) (ht : P.underlying t = some (.slice e)) (hi : (P.info? e).map (fun i => (i.zero, i.size, i.bytes)) = some (some z, 1, bytes)) (hzs : z.cells.size = 1)
    (v : Value) (n : Nat) (xs : List Value) (hs : a.eval s = v) (hown : w.ownsRow base e 1 v n xs)
    (ad : Addr) (m c : Nat) (news : List Value) (hx : a.eval x = .slice (some ad) m c) (hl : news.length = m) (hnews : ∀ j u, news[j]? = some u → w.cell? (ad.add j) = some u) (h1 : ∀ u ∈ news, u.oneCell' = true)
    (h63 : n + m ≤ maxLen) (hbytes : (n + m) * bytes ≤ 140737488355328) (hbase : base ≤ w.heap.size)
    (h : ∀ v' w', w'.ownsRow base e 1 v' (n + m) (xs ++ news) → Below base w w' → wpList P ops Q rest (a.put o.dst v') w') : wpList P ops Q (o :: rest) a w := by
  obtain ⟨i, hi, hz0, hz1, hz2⟩ := info_parts hi
  refine wpList_append_own _ hgd s x t ho base e i z 1 bytes ht hi hz0 hz1 hz2 hzs (by decide) v n xs hs hown ad m c news hx (by omega) hnews h1 h63 hbytes hbase ?_
  intro v' w' hown' hgrow _
  exact h v' w' hown' ((Below.refl base w).grown hgrow hbase (fun j hj => (hown.lt j hj).1))
end Go.Proofs.Ytmchgmpdhfefjaa

namespace Go.Proofs.Ytmchgmpdhfefjaa
open Go.RowKit

theorem strs_form {base : Nat} {w : World} {v : Value} {xs : List ByteArray} (h : StrsIn base w v xs) : ∃ o n c, v = .slice o n c := by
  obtain ⟨o, c, rfl, _⟩ := h.at
  exact ⟨_, _, _, rfl⟩
theorem ints_form {base : Nat} {w : World} {v : Value} {xs : List Int} (h : IntsIn base w v xs) : ∃ o n c, v = .slice o n c := by
  obtain ⟨o, c, rfl, _⟩ := h.at
  exact ⟨_, _, _, rfl⟩
/-- A row of texts. -/
structure Rw where
  row : List ByteArray
structure RwAt (w : World) (v0 : Value) (x : Rw) : Prop where
  a0 : StrsAt w v0 x.row
theorem RwAt.stays {w w' : World} {v0 : Value} {x : Rw} (h : RwAt w v0 x) (hb : Below w.heap.size w w') : RwAt w' v0 x := ⟨h.a0.stays hb⟩
structure RwC (base : Nat) (w : World) (cs : List Value) (x : Rw) : Prop where
  c : ∃ v0, cs = [v0] ∧ StrsIn base w v0 x.row
theorem RwC.stays {base : Nat} {w w' : World} {cs : List Value} {x : Rw} (h : RwC base w cs x) (hb : Below w.heap.size w w') : RwC base w' cs x := by
  obtain ⟨v0, e, h0⟩ := h.c
  exact ⟨v0, e, h0.kept (KeptFrom.below hb)⟩
theorem RwC.at {base : Nat} {w : World} {v0 : Value} {x : Rw} (h : RwC base w [v0] x) : RwAt w v0 x := by
  obtain ⟨v0', e, h0⟩ := h.c
  injection e with e0 _
  subst e0
  exact ⟨h0.at⟩
structure RwMax (x : Rw) : Prop where
  m0 : StrsMax x.row
structure RwLen (x : Rw) : Prop where
  l0 : x.row.length ≤ 1048576
def szRw (x : Rw) : Nat := szStrs x.row
theorem szRw_len {x : Rw} (h : szRw x ≤ 1048576) : RwLen x := by
  unfold szRw szStrs at h
  exact ⟨by omega⟩
structure RwSh (B T : Nat) (w : World) (v0 : Value) (x : Rw) : Prop where
  s0 : ShR B T 1 fStr x.row.length w v0
theorem RwSh.turn {B T B' T' : Nat} {w w' : World} {v0 : Value} {x : Rw} (h : RwSh B T w v0 x) (ht : Turn B' T' w w') : RwSh B T w' v0 x := ⟨h.s0.turn ht fun i _ => fStr_s i⟩
theorem RwSh.stays {B T : Nat} {w w' : World} {v0 : Value} {x : Rw} (h : RwSh B T w v0 x) (hb : Below w.heap.size w w') : RwSh B T w' v0 x := h.turn (T' := 0) (Turn.below hb (Nat.le_refl _))
theorem RwC.sh {base T : Nat} {w : World} {v0 : Value} {x : Rw} (h : RwC base w [v0] x) (hT : w.heap.size ≤ T) : RwSh base T w v0 x := by
  obtain ⟨v0', e, h0⟩ := h.c
  injection e with e0 _
  subst e0
  exact ⟨CellsIn.shT h0 hT⟩
/-- A row of numbers. -/
structure Ri where
  row : List Int
structure RiAt (w : World) (v0 : Value) (x : Ri) : Prop where
  a0 : IntsAt w v0 x.row
theorem RiAt.stays {w w' : World} {v0 : Value} {x : Ri} (h : RiAt w v0 x) (hb : Below w.heap.size w w') : RiAt w' v0 x := ⟨h.a0.stays hb⟩
structure RiC (base : Nat) (w : World) (cs : List Value) (x : Ri) : Prop where
  c : ∃ v0, cs = [v0] ∧ IntsIn base w v0 x.row
theorem RiC.stays {base : Nat} {w w' : World} {cs : List Value} {x : Ri} (h : RiC base w cs x) (hb : Below w.heap.size w w') : RiC base w' cs x := by
  obtain ⟨v0, e, h0⟩ := h.c
  exact ⟨v0, e, h0.kept (KeptFrom.below hb)⟩
theorem RiC.at {base : Nat} {w : World} {v0 : Value} {x : Ri} (h : RiC base w [v0] x) : RiAt w v0 x := by
  obtain ⟨v0', e, h0⟩ := h.c
  injection e with e0 _
  subst e0
  exact ⟨h0.at⟩
structure RiMax (x : Ri) : Prop where
  m0 : IntsMax x.row
structure RiLen (x : Ri) : Prop where
  l0 : x.row.length ≤ 1048576
def szRi (x : Ri) : Nat := x.row.length
theorem szRi_len {x : Ri} (h : szRi x ≤ 1048576) : RiLen x := ⟨h⟩
structure RiSh (B T : Nat) (w : World) (v0 : Value) (x : Ri) : Prop where
  s0 : ShR B T 1 fInt x.row.length w v0
theorem RiSh.turn {B T B' T' : Nat} {w w' : World} {v0 : Value} {x : Ri} (h : RiSh B T w v0 x) (ht : Turn B' T' w w') : RiSh B T w' v0 x := ⟨h.s0.turn ht fun i _ => fInt_s i⟩
theorem RiSh.stays {B T : Nat} {w w' : World} {v0 : Value} {x : Ri} (h : RiSh B T w v0 x) (hb : Below w.heap.size w w') : RiSh B T w' v0 x := h.turn (T' := 0) (Turn.below hb (Nat.le_refl _))
theorem RiC.sh {base T : Nat} {w : World} {v0 : Value} {x : Ri} (h : RiC base w [v0] x) (hT : w.heap.size ≤ T) : RiSh base T w v0 x := by
  obtain ⟨v0', e, h0⟩ := h.c
  injection e with e0 _
  subst e0
  exact ⟨CellsIn.shI h0 hT⟩
end Go.Proofs.Ytmchgmpdhfefjaa

namespace Go.Proofs.Ytmchgmpdhfefjaa
open Go.RowKit

structure RiOwn (B : Nat) (w : World) (v0 : Value) (x : Ri) : Prop where
  o0 : w.ownsRow B 3 1 v0 x.row.length (x.row.map I64)
theorem RiOwn.stays {B : Nat} {w w' : World} {v0 : Value} {x : Ri} (h : RiOwn B w v0 x) (hb : Below w.heap.size w w') : RiOwn B w' v0 x := ⟨ownsInts_stays h.o0 hb⟩
theorem RiOwn.at {B : Nat} {w : World} {v0 : Value} {x : Ri} (h : RiOwn B w v0 x) : RiAt w v0 x := ⟨IntsIn.at (CellsIn.own h.o0)⟩
theorem RiOwn.lo {B b : Nat} {w : World} {v0 : Value} {x : Ri} (h : RiOwn B w v0 x) (hb : b ≤ B) : RiOwn b w v0 x := ⟨owns_lo h.o0 hb⟩
theorem RiOwn.turn {B T b : Nat} {w w' : World} {v0 : Value} {x : Ri} (h : RiOwn b w v0 x) (ht : Turn B T w w') (hb : T ≤ b) : RiOwn b w' v0 x :=
  ⟨owns_eq h.o0 (fun i hi => ht.out i (Nat.le_trans hb (h.o0.lt i hi).1) (h.o0.lt i hi).2)⟩
theorem RiOwn.low {B b : Nat} {w w' : World} {v0 : Value} {x : Ri} (h : RiOwn b w v0 x) (ht : Below B w w') (hb : ∀ i, v0.ownBlock = some i → i < B) : RiOwn b w' v0 x :=
  ⟨owns_eq h.o0 (fun i hi => ht.block i (hb i hi))⟩
theorem RiOwn.lt {b : Nat} {w : World} {v0 : Value} {x : Ri} (h : RiOwn b w v0 x) : ∀ i, v0.ownBlock = some i → i < w.heap.size := fun i hi => (h.o0.lt i hi).2
structure RiHeld (B : Nat) (w : World) (v0 : Value) (n0 : Nat) : Prop where
  o0 : w.ownsRow B 3 1 v0 n0 ((nMarks (1) n0).map I64)
theorem RiHeld.stays {B : Nat} {w w' : World} {v0 : Value} {n0 : Nat} (h : RiHeld B w v0 n0) (hb : Below w.heap.size w w') : RiHeld B w' v0 n0 := ⟨ownsInts_stays h.o0 hb⟩
/-- The same, the marks going on from a number. -/
structure RiHeldK (B k0 : Nat) (w : World) (v0 : Value) (n0 : Nat) : Prop where
  o0 : w.ownsRow B 3 1 v0 n0 ((nMarks k0 n0).map I64)
theorem RiHeldK.stays {B k0 : Nat} {w w' : World} {v0 : Value} {n0 : Nat} (h : RiHeldK B k0 w v0 n0) (hb : Below w.heap.size w w') : RiHeldK B k0 w' v0 n0 := ⟨ownsInts_stays h.o0 hb⟩
end Go.Proofs.Ytmchgmpdhfefjaa
