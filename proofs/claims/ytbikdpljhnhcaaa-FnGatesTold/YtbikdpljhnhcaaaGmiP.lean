/-
  Whether a gate is right, as the program asks it: as a function.
-/
import Derived.Test.YtbikdpljhnhcaaaFlatP
import Derived.Test.YtbikdpljhnhcaaaTreeX
import Derived.Test.YtbikdpljhnhcaaaLawZ
import Derived.Test.YtbikdpljhnhcaaaAidD
import Derived.Test.YtbikdpljhnhcaaaSgP
namespace Go.Proofs.Ytbikdpljhnhcaaa
open Go.RowKit

/-- Who is there: what is not -1. -/
def live (l : List Int) : List Int := l.filter fun q => decide (q ≠ -1)
def scanB (l : List Int) : Bool := (live l).all (inZ 0 3) && decide (live l).Nodup
def allG (g : Gt) : List Int := g.owner :: (g.waits ++ g.queues)
def preB (g : Gt) : Bool := decide (g.queues.length ≤ 2) && !decide (-1 ∈ g.waits) && !decide (g.owner = -1 ∧ 0 < g.waits.length)
def progOk (g : Gt) : Bool := preB g && scanB (allG g)
theorem live_all {l : List Int} (h : -1 ∉ l) : live l = l := by
  unfold live
  rw [List.filter_eq_self]
  intro a ha
  exact decide_eq_true fun e => h (e ▸ ha)
theorem live_app (a b : List Int) : live (a ++ b) = live a ++ live b := List.filter_append ..
theorem live_cons (a : Int) (b : List Int) : live (a :: b) = (if a = -1 then [] else [a]) ++ live b := by
  unfold live
  by_cases h : a = -1 <;> simp [h]
theorem live_in {l : List Int} (h : l.all (inZ (-1) 3) = true) : live l = l.filter fun q => decide (0 ≤ q) := by
  unfold live
  apply List.filter_congr
  intro a ha
  have := inZ_yes.1 (List.all_eq_true.1 h a ha)
  by_cases e : a = -1
  · rw [e]; rfl
  · rw [decide_eq_true e, decide_eq_true (by omega : 0 ≤ a)]
theorem who_live {g : Gt} (h0 : inZ (-1) 3 g.owner = true) (h1 : -1 ∉ g.waits) (h2 : g.queues.all (inZ (-1) 3) = true) : live (allG g) = whoG g := by
  unfold allG whoG
  rw [live_cons, live_app, live_all h1, live_in h2]
  have := inZ_yes.1 h0
  by_cases e : g.owner = -1
  · rw [if_pos e, if_neg (by omega), List.append_assoc]
  · rw [if_neg e, if_pos (by omega), List.append_assoc]
theorem all_parts {g : Gt} (h1 : -1 ∉ g.waits) (h : (live (allG g)).all (inZ 0 3) = true) : inZ (-1) 3 g.owner = true ∧ g.waits.all (inZ 0 3) = true ∧ g.queues.all (inZ (-1) 3) = true := by
  have hk : ∀ y ∈ allG g, y ≠ -1 → 0 ≤ y ∧ y ≤ 3 := fun y hy hn => inZ_yes.1 (List.all_eq_true.1 h y (List.mem_filter.2 ⟨hy, decide_eq_true hn⟩))
  have hk' : ∀ y ∈ allG g, -1 ≤ y ∧ y ≤ 3 := fun y hy => by
    by_cases e : y = -1
    · omega
    · have := hk y hy e
      omega
  refine ⟨inZ_yes.2 (hk' _ (by simp [allG])), List.all_eq_true.2 fun y hy => inZ_yes.2 (hk y (by simp [allG, hy]) fun e => h1 (e ▸ hy)), List.all_eq_true.2 fun y hy => inZ_yes.2 (hk' y (by simp [allG, hy]))⟩
theorem prog_ok (g : Gt) : progOk g = gateOkB g := by
  rw [Bool.eq_iff_iff]
  unfold progOk preB gateOkB scanB
  simp only [Bool.and_eq_true, decide_eq_true_eq, Bool.not_eq_true', decide_eq_false_iff_not]
  constructor
  · rintro ⟨⟨⟨h1, h2⟩, h3⟩, h4, h5⟩
    obtain ⟨p0, p1, p2⟩ := all_parts h2 h4
    refine ⟨⟨⟨⟨⟨p0, h1⟩, ?_⟩, p1⟩, p2⟩, who_live p0 h2 p2 ▸ h5⟩
    have := inZ_yes.1 p0
    by_cases e : g.owner = -1
    · right
      have h6 : ¬ 0 < g.waits.length := fun k => h3 ⟨e, k⟩
      exact List.eq_nil_of_length_eq_zero (by omega)
    · left; omega
  · rintro ⟨⟨⟨⟨⟨p0, h1⟩, h3⟩, p1⟩, p2⟩, h5⟩
    have h2 : -1 ∉ g.waits := fun hm => by
      have := inZ_yes.1 (List.all_eq_true.1 p1 _ hm)
      omega
    refine ⟨⟨⟨h1, h2⟩, ?_⟩, ?_, (who_live p0 h2 p2).symm ▸ h5⟩
    · rintro ⟨e, k⟩
      rcases h3 with h3 | h3
      · omega
      · rw [h3] at k; simp at k
    · rw [List.all_eq_true]
      intro y hy
      obtain ⟨hy, hn⟩ := List.mem_filter.1 hy
      have hn := of_decide_eq_true hn
      apply inZ_yes.2
      simp only [allG, List.mem_cons, List.mem_append] at hy
      rcases hy with rfl | hy | hy
      · have := inZ_yes.1 p0; omega
      · exact inZ_yes.1 (List.all_eq_true.1 p1 _ hy)
      · have := inZ_yes.1 (List.all_eq_true.1 p2 _ hy); omega

/-- One more. -/
theorem live_snoc (l : List Int) (a : Int) : live (l ++ [a]) = if a = -1 then live l else live l ++ [a] := by
  rw [live_app]
  by_cases h : a = -1 <;> simp [live, h]
theorem scan_skip {l : List Int} {a : Int} (h : a = -1) (hs : scanB l = true) : scanB (l ++ [a]) = true := by
  unfold scanB at *
  rw [live_snoc, if_pos h]
  exact hs
theorem mem_live {l : List Int} {a : Int} (h : a ≠ -1) : a ∈ live l ↔ a ∈ l := by simp [live, h]
theorem scan_more {l : List Int} {a : Int} (h : a ≠ -1) (hs : scanB l = true) (hr : inZ 0 3 a = true) (hn : a ∉ l) : scanB (l ++ [a]) = true := by
  unfold scanB at *
  rw [live_snoc, if_neg h]
  simp only [Bool.and_eq_true, decide_eq_true_eq] at hs ⊢
  refine ⟨by rw [List.all_append, hs.1]; simp [hr], ?_⟩
  rw [List.nodup_append]
  refine ⟨hs.2, by simp, ?_⟩
  intro x hx y hy e
  simp only [List.mem_singleton] at hy
  subst hy
  exact hn ((mem_live h).1 (e ▸ hx))
theorem scan_bad_range {l r : List Int} {a : Int} (h : a ≠ -1) (hr : inZ 0 3 a = false) : scanB (l ++ a :: r) = false := by
  unfold scanB
  rw [live_app, live_cons, if_neg h]
  simp [hr]
theorem scan_bad_twice {l r : List Int} {a : Int} (h : a ≠ -1) (hn : a ∈ l) : scanB (l ++ a :: r) = false := by
  unfold scanB
  rw [live_app, live_cons, if_neg h]
  have : ¬ (live l ++ ([a] ++ live r)).Nodup := fun k => (List.nodup_append.1 k).2.2 a ((mem_live h).2 hn) a (by simp) rfl
  rw [decide_eq_false this, Bool.and_false]
end Go.Proofs.Ytbikdpljhnhcaaa

namespace Go.Proofs.Ytbikdpljhnhcaaa
open Go.RowKit

structure Ev where
  names : List ByteArray
  vals : List Int
structure EvAt (w : World) (v0 v1 : Value) (x : Ev) : Prop where
  a0 : StrsAt w v0 x.names
  a1 : IntsAt w v1 x.vals
theorem EvAt.stays {w w' : World} {v0 v1 : Value} {x : Ev} (h : EvAt w v0 v1 x) (hb : Below w.heap.size w w') : EvAt w' v0 v1 x := ⟨h.a0.stays hb, h.a1.stays hb⟩
def EvC (base : Nat) (w : World) (cs : List Value) (x : Ev) : Prop := ∃ v0 v1, cs = [v0, v1] ∧ StrsIn base w v0 x.names ∧ IntsIn base w v1 x.vals
structure EvMax (x : Ev) : Prop where
  m0 : StrsMax x.names
  m1 : IntsMax x.vals
structure EvLen (x : Ev) : Prop where
  l0 : x.names.length ≤ 1048576
  l1 : x.vals.length ≤ 1048576
def szEv (x : Ev) : Nat := szStrs x.names + x.vals.length
theorem szEv_len {x : Ev} (h : szEv x ≤ 1048576) : EvLen x := by
  unfold szEv at h
  unfold szStrs at h
  exact ⟨by omega, by omega⟩
theorem EvC.kept {base : Nat} {w w' : World} {cs : List Value} {x : Ev} (h : EvC base w cs x) (k : KeptFrom base w w') : EvC base w' cs x := by
  obtain ⟨v0, v1, e, h0, h1⟩ := h
  exact ⟨v0, v1, e, h0.kept k, h1.kept k⟩
theorem EvC.stays {base : Nat} {w w' : World} {cs : List Value} {x : Ev} (h : EvC base w cs x) (hb : Below w.heap.size w w') : EvC base w' cs x := h.kept (KeptFrom.below hb)
theorem EvC.at {base : Nat} {w : World} {v0 v1 : Value} {x : Ev} (h : EvC base w [v0, v1] x) : EvAt w v0 v1 x := by
  obtain ⟨v0', v1', e, h0, h1⟩ := h
  injection e with e0 e
  injection e with e1 _
  subst e0 e1
  exact ⟨h0.at, h1.at⟩
theorem EvC.form {base : Nat} {w : World} {cs : List Value} {x : Ev} (h : EvC base w cs x) : ∃ o0 c0 o1 c1, cs = [.slice o0 x.names.length c0, .slice o1 x.vals.length c1] := by
  obtain ⟨v0, v1, e, h0, h1⟩ := h
  obtain ⟨o0, c0, rfl, _⟩ := h0.at
  obtain ⟨o1, c1, rfl, _⟩ := h1.at
  exact ⟨_, _, _, _, e⟩
structure EvSh (B T : Nat) (w : World) (v0 v1 : Value) (x : Ev) : Prop where
  s0 : ShR B T 1 fStr x.names.length w v0
  s1 : ShR B T 1 fInt x.vals.length w v1
theorem EvSh.turn {B T B' T' : Nat} {w w' : World} {v0 v1 : Value} {x : Ev} (h : EvSh B T w v0 v1 x) (ht : Turn B' T' w w') : EvSh B T w' v0 v1 x := ⟨h.s0.turn ht fun i _ => fStr_s i, h.s1.turn ht fun i _ => fInt_s i⟩
theorem EvSh.stays {B T : Nat} {w w' : World} {v0 v1 : Value} {x : Ev} (h : EvSh B T w v0 v1 x) (hb : Below w.heap.size w w') : EvSh B T w' v0 v1 x := h.turn (T' := 0) (Turn.below hb (Nat.le_refl _))
theorem EvC.sh {base T : Nat} {w : World} {v0 v1 : Value} {x : Ev} (h : EvC base w [v0, v1] x) (hT : w.heap.size ≤ T) : EvSh base T w v0 v1 x := by
  obtain ⟨v0', v1', e, h0, h1⟩ := h
  injection e with e0 e
  injection e with e1 _
  subst e0 e1
  exact ⟨CellsIn.shT h0 hT, CellsIn.shI h1 hT⟩
/-- An answer that owns its rows, from a base on, each in a block of its own. -/
structure EvOwn (B : Nat) (w : World) (v0 v1 : Value) (x : Ev) : Prop where
  o0 : w.ownsRow B 9 1 v0 x.names.length (x.names.map S)
  o1 : w.ownsRow B 3 1 v1 x.vals.length (x.vals.map I64)
  ap : ∀ i, v0.ownBlock = some i → v1.ownBlock ≠ some i
theorem EvOwn.stays {B : Nat} {w w' : World} {v0 v1 : Value} {x : Ev} (h : EvOwn B w v0 v1 x) (hb : Below w.heap.size w w') : EvOwn B w' v0 v1 x := ⟨ownsInts_stays h.o0 hb, ownsInts_stays h.o1 hb, h.ap⟩
theorem EvOwn.at {B : Nat} {w : World} {v0 v1 : Value} {x : Ev} (h : EvOwn B w v0 v1 x) : EvAt w v0 v1 x := ⟨StrsIn.at (CellsIn.own h.o0), IntsIn.at (CellsIn.own h.o1)⟩
theorem EvOwn.lo {B b : Nat} {w : World} {v0 v1 : Value} {x : Ev} (h : EvOwn B w v0 v1 x) (hb : b ≤ B) : EvOwn b w v0 v1 x := ⟨owns_lo h.o0 hb, owns_lo h.o1 hb, h.ap⟩
theorem EvOwn.turn {B T b : Nat} {w w' : World} {v0 v1 : Value} {x : Ev} (h : EvOwn b w v0 v1 x) (ht : Turn B T w w') (hb : T ≤ b) : EvOwn b w' v0 v1 x :=
  ⟨owns_eq h.o0 (fun i hi => ht.out i (Nat.le_trans hb (h.o0.lt i hi).1) (h.o0.lt i hi).2), owns_eq h.o1 (fun i hi => ht.out i (Nat.le_trans hb (h.o1.lt i hi).1) (h.o1.lt i hi).2), h.ap⟩
theorem EvOwn.low {B b : Nat} {w w' : World} {v0 v1 : Value} {x : Ev} (h : EvOwn b w v0 v1 x) (ht : Below B w w') (hb : (∀ i, v0.ownBlock = some i → i < B) ∧ (∀ i, v1.ownBlock = some i → i < B)) : EvOwn b w' v0 v1 x :=
  ⟨owns_eq h.o0 (fun i hi => ht.block i (hb.1 i hi)), owns_eq h.o1 (fun i hi => ht.block i (hb.2 i hi)), h.ap⟩
theorem EvOwn.lt {b : Nat} {w : World} {v0 v1 : Value} {x : Ev} (h : EvOwn b w v0 v1 x) : (∀ i, v0.ownBlock = some i → i < w.heap.size) ∧ (∀ i, v1.ownBlock = some i → i < w.heap.size) := ⟨fun i hi => (h.o0.lt i hi).2, fun i hi => (h.o1.lt i hi).2⟩
theorem EvOwn.boxed {B b i : Nat} {z : World} {v0 v1 : Value} {x : Ev} {cs : Array Value} {T : TypeId} (h : EvOwn B z v0 v1 x) (hb : Box z b cs T) (t3 : T ≠ 3) (t9 : T ≠ 9) (u : Value) : EvOwn B (z.setCell ⟨b, i, none⟩ u) v0 v1 x :=
  ⟨owns_eq h.o0 (fun g hg => Below.heap_setCell _ ⟨b, i, none⟩ _ g (fun e => Lib.ownBlock_ne h.o0 hb t9 (by rw [hg, e]))), owns_eq h.o1 (fun g hg => Below.heap_setCell _ ⟨b, i, none⟩ _ g (fun e => Lib.ownBlock_ne h.o1 hb t3 (by rw [hg, e]))), h.ap⟩
structure EvHeld (B : Nat) (w : World) (v0 v1 : Value) (n0 n1 : Nat) : Prop where
  o0 : w.ownsRow B 9 1 v0 n0 ((marks (1) n0).map S)
  o1 : w.ownsRow B 3 1 v1 n1 ((nMarks (1 + n0) n1).map I64)
theorem EvHeld.stays {B : Nat} {w w' : World} {v0 v1 : Value} {n0 n1 : Nat} (h : EvHeld B w v0 v1 n0 n1) (hb : Below w.heap.size w w') : EvHeld B w' v0 v1 n0 n1 := ⟨ownsInts_stays h.o0 hb, ownsInts_stays h.o1 hb⟩

section
open Go.ChangeShapes Go.WideShapes Go.ChangeAt Go.Deep
variable {H : Type} {enc : TypeId × Value → H} {W : World}
end
end Go.Proofs.Ytbikdpljhnhcaaa
