/-
  What a gate does: as functions.
-/
import Derived.Test.YtlfhoeogjipakaaFlG
import Derived.Test.YtlfhoeogjipakaaTreeP
namespace Go.Proofs.Ytlfhoeogjipakaa
open Go.RowKit

def gateNewE (q : Int) : Gt := ⟨-1, [], List.replicate (min q.toNat 2) (-1)⟩
/-- Who is there: the owner, those that wait, those in queues. -/
def whoG (g : Gt) : List Int := (if 0 ≤ g.owner then [g.owner] else []) ++ g.waits ++ g.queues.filter fun q => decide (0 ≤ q)
def gateOkB (g : Gt) : Bool := inZ (-1) 3 g.owner && decide (g.queues.length ≤ 2) && decide (0 ≤ g.owner ∨ g.waits = []) &&
  g.waits.all (inZ 0 3) && g.queues.all (inZ (-1) 3) && decide (whoG g).Nodup
def isIn (g : Gt) (p : Int) : Bool := decide (g.owner = p) || decide (p ∈ g.waits) || decide (p ∈ g.queues)
def arriveE (g : Gt) (p : Int) : Gt × Bool :=
  if gateOkB g = false ∨ inZ 0 3 p = false ∨ isIn g p = true then (g, false)
  else if g.owner < 0 then ({ g with owner := p }, true) else ({ g with waits := g.waits ++ [p] }, false)
/-- Who is first is let in. -/
def nextG (g : Gt) : Gt := { g with owner := g.waits.headD (-1), waits := g.waits.tail }
def leaveE (g : Gt) : Gt × Int := if gateOkB g = false ∨ g.owner < 0 then (g, -1) else (nextG g, (nextG g).owner)
def delayE (g : Gt) (q : Int) : Gt × Int × Bool :=
  if gateOkB g = false ∨ g.owner < 0 ∨ inZ 0 ((g.queues.length : Int) - 1) q = false ∨ 0 ≤ g.queues.getD q.toNat (-1) then (g, -1, false)
  else (nextG { g with queues := g.queues.set q.toNat g.owner }, (nextG g).owner, true)
def contE (g : Gt) (q : Int) : Gt × Int :=
  if gateOkB g = false ∨ g.owner < 0 ∨ inZ 0 ((g.queues.length : Int) - 1) q = false then (g, -1)
  else if g.queues.getD q.toNat (-1) < 0 then (nextG g, (nextG g).owner)
  else ({ g with owner := g.queues.getD q.toNat (-1), queues := g.queues.set q.toNat (-1) }, g.queues.getD q.toNat (-1))
theorem gateNewE_len (q : Int) : GtLen (gateNewE q) := ⟨by simp [gateNewE], by simp [gateNewE]; omega⟩
theorem nextG_len {g : Gt} (h : GtLen g) : GtLen (nextG g) := ⟨by show g.waits.tail.length ≤ _; have := h.l1; rw [List.length_tail]; omega, h.l2⟩
theorem leaveE_len {g : Gt} (h : szGt g ≤ 1048576) : GtLen (leaveE g).1 := by
  unfold leaveE
  split
  · exact szGt_len h
  · exact nextG_len (szGt_len h)
theorem delayE_len {g : Gt} (h : szGt g ≤ 1048576) (q : Int) : GtLen (delayE g q).1 := by
  unfold delayE
  split
  · exact szGt_len h
  · exact nextG_len ⟨(szGt_len h).l1, by show (g.queues.set _ _).length ≤ _; rw [List.length_set]; exact (szGt_len h).l2⟩
theorem contE_len {g : Gt} (h : szGt g ≤ 1048576) (q : Int) : GtLen (contE g q).1 := by
  unfold contE
  split
  · exact szGt_len h
  · split
    · exact nextG_len (szGt_len h)
    · exact ⟨(szGt_len h).l1, by show (g.queues.set _ _).length ≤ _; rw [List.length_set]; exact (szGt_len h).l2⟩
theorem nodup_le : ∀ (l m : List Int), l.Nodup → (∀ y ∈ l, y ∈ m) → l.length ≤ m.length
  | [], m, _, _ => by simp
  | a :: l, m, hn, hm => by
    have h1 := List.nodup_cons.1 hn
    have h2 := nodup_le l (m.erase a) h1.2 fun y hy => (List.mem_erase_of_ne (a := y) (b := a) (fun e => h1.1 (by rw [← e]; exact hy))).2 (hm y (List.mem_cons_of_mem _ hy))
    have h3 := List.length_erase_of_mem (hm a List.mem_cons_self)
    have h4 := List.length_pos_of_mem (hm a List.mem_cons_self)
    rw [List.length_cons]
    omega
theorem gateOk_small {g : Gt} (h : gateOkB g = true) : g.waits.length ≤ 4 := by
  simp only [gateOkB, Bool.and_eq_true] at h
  obtain ⟨⟨⟨⟨⟨_, _⟩, _⟩, h4⟩, _⟩, h6⟩ := h
  have hn : g.waits.Nodup := by
    have := of_decide_eq_true h6
    unfold whoG at this
    exact (List.nodup_append.1 (List.nodup_append.1 this).1).2.1
  have hs : ∀ y ∈ g.waits, y ∈ [(0 : Int), 1, 2, 3] := fun y hy => by
    have := inZ_yes.1 (List.all_eq_true.1 h4 y hy)
    simp
    omega
  have := nodup_le _ _ hn hs
  simpa using this
theorem arriveE_len {g : Gt} (h : szGt g ≤ 1048576) (p : Int) : GtLen (arriveE g p).1 := by
  have hl := szGt_len h
  unfold arriveE
  split
  · exact hl
  · next hc =>
    split
    · exact ⟨hl.l1, hl.l2⟩
    · refine ⟨?_, hl.l2⟩
      have h1 : gateOkB g = true := by
        cases e : gateOkB g with
        | true => rfl
        | false => exact absurd (.inl e) hc
      have := gateOk_small h1
      show (g.waits ++ [p]).length ≤ _
      rw [List.length_append]
      simp
      omega
end Go.Proofs.Ytlfhoeogjipakaa
