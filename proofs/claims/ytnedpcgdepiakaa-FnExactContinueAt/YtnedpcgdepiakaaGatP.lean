/-
  What a gate does: as functions.
-/
import Derived.Test.YtnedpcgdepiakaaFlG
import Derived.Test.YtnedpcgdepiakaaTreeP
namespace Go.Proofs.Ytnedpcgdepiakaa
open Go.RowKit

def gateNewE (q : Int) : Gt := ⟨-1, [], List.replicate (min q.toNat 2) (-1)⟩
/-- Who is there: the owner, those that wait, those in queues. -/
def whoG (g : Gt) : List Int := (if 0 ≤ g.owner then [g.owner] else []) ++ g.waits ++ g.queues.filter fun q => decide (0 ≤ q)
def gateOkB (g : Gt) : Bool := inZ (-1) 3 g.owner && decide (g.queues.length ≤ 2) && decide (0 ≤ g.owner ∨ g.waits = []) &&
  g.waits.all (inZ 0 3) && g.queues.all (inZ (-1) 3) && decide (whoG g).Nodup
def isIn (g : Gt) (p : Int) : Bool := decide (g.owner = p) || decide (p ∈ g.waits) || decide (p ∈ g.queues)
def arriveE (g : Gt) (p : Int) : Gt × Bool :=
  if gateOkB g = false ∨ inZ 0 3 p = false ∨ isIn g p = true then (g, false)
  else if g.owner < 0 then ({ g with owner := p }, true) else ({ g with waits := g.waits ++ [p] }, false)
/-- Who is first is let in. -/
def nextG (g : Gt) : Gt := { g with owner := g.waits.headD (-1), waits := g.waits.tail }
def leaveE (g : Gt) : Gt × Int := if gateOkB g = false ∨ g.owner < 0 then (g, -1) else (nextG g, (nextG g).owner)
def delayE (g : Gt) (q : Int) : Gt × Int × Bool :=
  if gateOkB g = false ∨ g.owner < 0 ∨ inZ 0 ((g.queues.length : Int) - 1) q = false ∨ 0 ≤ g.queues.getD q.toNat (-1) then (g, -1, false)
  else (nextG { g with queues := g.queues.set q.toNat g.owner }, (nextG g).owner, true)
def contE (g : Gt) (q : Int) : Gt × Int :=
  if gateOkB g = false ∨ g.owner < 0 ∨ inZ 0 ((g.queues.length : Int) - 1) q = false then (g, -1)
  else if g.queues.getD q.toNat (-1) < 0 then (nextG g, (nextG g).owner)
  else ({ g with owner := g.queues.getD q.toNat (-1), queues := g.queues.set q.toNat (-1) }, g.queues.getD q.toNat (-1))
theorem gateNewE_len (q : Int) : GtLen (gateNewE q) := ⟨by simp [gateNewE], by simp [gateNewE]; omega⟩
theorem nextG_len {g : Gt} (h : GtLen g) : GtLen (nextG g) := ⟨by show g.waits.tail.length ≤ _; have := h.l1; rw [List.length_tail]; omega, h.l2⟩
theorem leaveE_len {g : Gt} (h : szGt g ≤ 1048576) : GtLen (leaveE g).1 := by
  unfold leaveE
  split
  · exact szGt_len h
  · exact nextG_len (szGt_len h)
theorem delayE_len {g : Gt} (h : szGt g ≤ 1048576) (q : Int) : GtLen (delayE g q).1 := by
  unfold delayE
  split
  · exact szGt_len h
  · exact nextG_len ⟨(szGt_len h).l1, by show (g.queues.set _ _).length ≤ _; rw [List.length_set]; exact (szGt_len h).l2⟩
theorem contE_len {g : Gt} (h : szGt g ≤ 1048576) (q : Int) : GtLen (contE g q).1 := by
  unfold contE
  split
  · exact szGt_len h
  · split
    · exact nextG_len (szGt_len h)
    · exact ⟨(szGt_len h).l1, by show (g.queues.set _ _).length ≤ _; rw [List.length_set]; exact (szGt_len h).l2⟩
theorem nodup_le : ∀ (l m : List Int), l.Nodup → (∀ y ∈ l, y ∈ m) → l.length ≤ m.length
  | [], m, _, _ => by simp
  | a :: l, m, hn, hm => by
    have h1 := List.nodup_cons.1 hn
    have h2 := nodup_le l (m.erase a) h1.2 fun y hy => (List.mem_erase_of_ne (a := y) (b := a) (fun e => h1.1 (by rw [← e]; exact hy))).2 (hm y (List.mem_cons_of_mem _ hy))
    have h3 := List.length_erase_of_mem (hm a List.mem_cons_self)
    have h4 := List.length_pos_of_mem (hm a List.mem_cons_self)
    rw [List.length_cons]
    omega
theorem gateOk_small {g : Gt} (h : gateOkB g = true) : g.waits.length ≤ 4 := by
  simp only [gateOkB, Bool.and_eq_true] at h
  obtain ⟨⟨⟨⟨⟨_, _⟩, _⟩, h4⟩, _⟩, h6⟩ := h
  have hn : g.waits.Nodup := by
    have := of_decide_eq_true h6
    unfold whoG at this
    exact (List.nodup_append.1 (List.nodup_append.1 this).1).2.1
  have hs : ∀ y ∈ g.waits, y ∈ [(0 : Int), 1, 2, 3] := fun y hy => by
    have := inZ_yes.1 (List.all_eq_true.1 h4 y hy)
    simp
    omega
  have := nodup_le _ _ hn hs
  simpa using this
theorem arriveE_len {g : Gt} (h : szGt g ≤ 1048576) (p : Int) : GtLen (arriveE g p).1 := by
  have hl := szGt_len h
  unfold arriveE
  split
  · exact hl
  · next hc =>
    split
    · exact ⟨hl.l1, hl.l2⟩
    · refine ⟨?_, hl.l2⟩
      have h1 : gateOkB g = true := by
        cases e : gateOkB g with
        | true => rfl
        | false => exact absurd (.inl e) hc
      have := gateOk_small h1
      show (g.waits ++ [p]).length ≤ _
      rw [List.length_append]
      simp
      omega
end Go.Proofs.Ytnedpcgdepiakaa

namespace Go.Proofs.Ytnedpcgdepiakaa
open Go.RowKit

/-- Who is there: what is not -1. -/
def live (l : List Int) : List Int := l.filter fun q => decide (q ≠ -1)
def scanB (l : List Int) : Bool := (live l).all (inZ 0 3) && decide (live l).Nodup
def allG (g : Gt) : List Int := g.owner :: (g.waits ++ g.queues)
def preB (g : Gt) : Bool := decide (g.queues.length ≤ 2) && !decide (-1 ∈ g.waits) && !decide (g.owner = -1 ∧ 0 < g.waits.length)
def progOk (g : Gt) : Bool := preB g && scanB (allG g)
theorem live_all {l : List Int} (h : -1 ∉ l) : live l = l := by
  unfold live
  rw [List.filter_eq_self]
  intro a ha
  exact decide_eq_true fun e => h (e ▸ ha)
theorem live_app (a b : List Int) : live (a ++ b) = live a ++ live b := List.filter_append ..
theorem live_cons (a : Int) (b : List Int) : live (a :: b) = (if a = -1 then [] else [a]) ++ live b := by
  unfold live
  by_cases h : a = -1 <;> simp [h]
theorem live_in {l : List Int} (h : l.all (inZ (-1) 3) = true) : live l = l.filter fun q => decide (0 ≤ q) := by
  unfold live
  apply List.filter_congr
  intro a ha
  have := inZ_yes.1 (List.all_eq_true.1 h a ha)
  by_cases e : a = -1
  · rw [e]; rfl
  · rw [decide_eq_true e, decide_eq_true (by omega : 0 ≤ a)]
theorem who_live {g : Gt} (h0 : inZ (-1) 3 g.owner = true) (h1 : -1 ∉ g.waits) (h2 : g.queues.all (inZ (-1) 3) = true) : live (allG g) = whoG g := by
  unfold allG whoG
  rw [live_cons, live_app, live_all h1, live_in h2]
  have := inZ_yes.1 h0
  by_cases e : g.owner = -1
  · rw [if_pos e, if_neg (by omega), List.append_assoc]
  · rw [if_neg e, if_pos (by omega), List.append_assoc]
theorem all_parts {g : Gt} (h1 : -1 ∉ g.waits) (h : (live (allG g)).all (inZ 0 3) = true) : inZ (-1) 3 g.owner = true ∧ g.waits.all (inZ 0 3) = true ∧ g.queues.all (inZ (-1) 3) = true := by
  have hk : ∀ y ∈ allG g, y ≠ -1 → 0 ≤ y ∧ y ≤ 3 := fun y hy hn => inZ_yes.1 (List.all_eq_true.1 h y (List.mem_filter.2 ⟨hy, decide_eq_true hn⟩))
  have hk' : ∀ y ∈ allG g, -1 ≤ y ∧ y ≤ 3 := fun y hy => by
    by_cases e : y = -1
    · omega
    · have := hk y hy e
      omega
  refine ⟨inZ_yes.2 (hk' _ (by simp [allG])), List.all_eq_true.2 fun y hy => inZ_yes.2 (hk y (by simp [allG, hy]) fun e => h1 (e ▸ hy)), List.all_eq_true.2 fun y hy => inZ_yes.2 (hk' y (by simp [allG, hy]))⟩
theorem prog_ok (g : Gt) : progOk g = gateOkB g := by
  rw [Bool.eq_iff_iff]
  unfold progOk preB gateOkB scanB
  simp only [Bool.and_eq_true, decide_eq_true_eq, Bool.not_eq_true', decide_eq_false_iff_not]
  constructor
  · rintro ⟨⟨⟨h1, h2⟩, h3⟩, h4, h5⟩
    obtain ⟨p0, p1, p2⟩ := all_parts h2 h4
    refine ⟨⟨⟨⟨⟨p0, h1⟩, ?_⟩, p1⟩, p2⟩, who_live p0 h2 p2 ▸ h5⟩
    have := inZ_yes.1 p0
    by_cases e : g.owner = -1
    · right
      have h6 : ¬ 0 < g.waits.length := fun k => h3 ⟨e, k⟩
      exact List.eq_nil_of_length_eq_zero (by omega)
    · left; omega
  · rintro ⟨⟨⟨⟨⟨p0, h1⟩, h3⟩, p1⟩, p2⟩, h5⟩
    have h2 : -1 ∉ g.waits := fun hm => by
      have := inZ_yes.1 (List.all_eq_true.1 p1 _ hm)
      omega
    refine ⟨⟨⟨h1, h2⟩, ?_⟩, ?_, (who_live p0 h2 p2).symm ▸ h5⟩
    · rintro ⟨e, k⟩
      rcases h3 with h3 | h3
      · omega
      · rw [h3] at k; simp at k
    · rw [List.all_eq_true]
      intro y hy
      obtain ⟨hy, hn⟩ := List.mem_filter.1 hy
      have hn := of_decide_eq_true hn
      apply inZ_yes.2
      simp only [allG, List.mem_cons, List.mem_append] at hy
      rcases hy with rfl | hy | hy
      · have := inZ_yes.1 p0; omega
      · exact inZ_yes.1 (List.all_eq_true.1 p1 _ hy)
      · have := inZ_yes.1 (List.all_eq_true.1 p2 _ hy); omega

/-- One more. -/
theorem live_snoc (l : List Int) (a : Int) : live (l ++ [a]) = if a = -1 then live l else live l ++ [a] := by
  rw [live_app]
  by_cases h : a = -1 <;> simp [live, h]
theorem scan_skip {l : List Int} {a : Int} (h : a = -1) (hs : scanB l = true) : scanB (l ++ [a]) = true := by
  unfold scanB at *
  rw [live_snoc, if_pos h]
  exact hs
theorem mem_live {l : List Int} {a : Int} (h : a ≠ -1) : a ∈ live l ↔ a ∈ l := by simp [live, h]
theorem scan_more {l : List Int} {a : Int} (h : a ≠ -1) (hs : scanB l = true) (hr : inZ 0 3 a = true) (hn : a ∉ l) : scanB (l ++ [a]) = true := by
  unfold scanB at *
  rw [live_snoc, if_neg h]
  simp only [Bool.and_eq_true, decide_eq_true_eq] at hs ⊢
  refine ⟨by rw [List.all_append, hs.1]; simp [hr], ?_⟩
  rw [List.nodup_append]
  refine ⟨hs.2, by simp, ?_⟩
  intro x hx y hy e
  simp only [List.mem_singleton] at hy
  subst hy
  exact hn ((mem_live h).1 (e ▸ hx))
theorem scan_bad_range {l r : List Int} {a : Int} (h : a ≠ -1) (hr : inZ 0 3 a = false) : scanB (l ++ a :: r) = false := by
  unfold scanB
  rw [live_app, live_cons, if_neg h]
  simp [hr]
theorem scan_bad_twice {l r : List Int} {a : Int} (h : a ≠ -1) (hn : a ∈ l) : scanB (l ++ a :: r) = false := by
  unfold scanB
  rw [live_app, live_cons, if_neg h]
  have : ¬ (live l ++ ([a] ++ live r)).Nodup := fun k => (List.nodup_append.1 k).2.2 a ((mem_live h).2 hn) a (by simp) rfl
  rw [decide_eq_false this, Bool.and_false]
end Go.Proofs.Ytnedpcgdepiakaa
